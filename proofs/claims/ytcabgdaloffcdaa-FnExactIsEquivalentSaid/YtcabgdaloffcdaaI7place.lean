/- The search of chapter 7's program: place. -/
import Derived.Test.YtcabgdaloffcdaaI7plc
import Derived.Test.YtcabgdaloffcdaaI5copy
namespace Go.Proofs.Ytcabgdaloffcdaa
open Go Go.Sort Go.RowKit
set_option linter.unusedVariables false

theorem FoundO.wide {w w1 w2 : World} {o : Option (List Int)} {yv : Value} {b : Bool} (h : FoundO w1 w2 o yv b) (h1 : w.heap.size ≤ w1.heap.size) : FoundO w w2 o yv b := by
  unfold FoundO at h ⊢
  cases o with
  | none => exact h
  | some y =>
    obtain ⟨hb, bs, ho, hf⟩ := h
    exact ⟨hb, bs, ho, hf.1, fun b hb => ⟨Nat.le_trans h1 (hf.2 b hb).1, (hf.2 b hb).2⟩⟩

set_option maxRecDepth 100000 in
set_option maxHeartbeats 4000000 in
theorem iPlace_any (W0 : World) (X MB : Nat) (ua : Option Addr) (un uc : Nat) (B : List AtomD) (hB : RdSl 2 CsAtom W0 (.slice ua un uc) B) (hBu : ∀ b ∈ B, ∀ x ∈ b.2, x ≠ -1000) : ∀ (F : List AtomD) (hF20 : ∀ a ∈ F, ∀ x ∈ a.2, x < 20) (w : World) (vat mv : Value) (m mp : List Int), RdAtomS W0 vat F → MS W0 w X MB (.slice ua un uc) mv m mp → mp.length + sumArgs F ≤ 1000000 →
    Calls Try.prog 70 #[.pointer (some ⟨X, 0, none⟩), vat] w (Placed W0 w X MB (.slice ua un uc) m mp (srch B F m)) := by
  intro F
  induction F with
  | nil =>
    intro _ w vat mv m mp hat h hlim
    obtain ⟨pa, an, ac, rfl, hat⟩ := hat
    obtain ⟨hla, _, _, _⟩ := hat.at
    obtain rfl : an = 0 := by simpa using hla.symm
    have H := Lib.hid h
    have c1 := h.c1
    have HC := Lib.hid (iClone_any w (.slice (some ⟨MB, 0, none⟩) 20 20) m (Ints.ofBuilt h.bm h.mi) (by rw [h.len]; decide))
    have HS : Hid (srch B [] m = some m) := rfl
    clear h hat hla hlim hB hBu
    go_enter Try.func70, Try.ntmps70
    go_wp2_with fail
    refine HC.out.mono ?_
    rintro e w2 ⟨vb, bsb, rfl, hob, hfb, hbb⟩
    have HOB := Lib.hid hob
    have HFB := Lib.hid hfb
    have HBB := Lib.hid hbb
    have HM := Lib.hid (H.out.grow hbb)
    clear hob hfb hbb
    go_wp2_with fail
    go_ret2
    exact ⟨vb, true, mv, rfl, HM.out, by rw [HS.out]; exact ⟨rfl, bsb, HOB.out, HFB.out⟩, HBB.out.size⟩
  | cons a rest ih =>
    intro hF20 w vat mv m mp hat h hlim
    have HPF := Lib.hid (fun w mv h b xa xm xc hb hbu => iPlaceFirst_of W0 X MB (.slice ua un uc) B a rest (hF20 a (List.mem_cons_self ..)) (ih (fun a ha => hF20 a (List.mem_cons_of_mem _ ha))) w vat hat mv m mp h hlim b xa xm xc hb hbu)
    obtain ⟨pa, an, ac, rfl, hat'⟩ := hat
    obtain ⟨hla, _, _, _⟩ := hat'.at
    have hne : ((an : Int) == 0) = false := by rw [beq_eq_false_iff_ne]; simp at hla; omega
    obtain ⟨hlb, hnb, hmb, hcb⟩ := hB.at
    unfold maxLen at hmb
    have H := Lib.hid h
    have c0 := h.c0
    have HCB := Lib.hid hcb
    have HLB := Lib.hid hlb
    have HBU := Lib.hid hBu
    rw [srch_cons]
    clear h hat' hla hlim hB hBu hcb hlb ih hF20
    go_enter Try.func70, Try.ntmps70
    go_wp2_with fail
    go_loopw [23] (fun kv wr => ∃ k : Nat, k ≤ un ∧ kv = .int .i64 k ∧ (B.take k).findSome? (srch1 B a rest m) = none ∧ ∃ mv', Hid (MS W0 wr X MB (.slice ua un uc) mv' m mp) ∧ w.heap.size ≤ wr.heap.size) (fun kv _ => un - (intOf kv).toNat)
    case atStart => exact ⟨0, by omega, rfl, by simp, mv, H, Nat.le_refl _⟩
    case round =>
      obtain ⟨k, hk, rfl, hnone, mv', HM, hsz⟩ := hrel
      by_cases hltk : k < un
      · obtain ⟨b2, off2, rfl, hbw2, hc2⟩ := HCB.out (by omega)
        obtain ⟨e2, hd2⟩ : ∃ e2, B[k]? = some e2 := ⟨B[k]'(by rw [HLB.out]; exact hltk), List.getElem?_eq_getElem (by rw [HLB.out]; exact hltk)⟩
        obtain ⟨xa, xm, xc, d0, d1, hdi2, hints2⟩ := atomAt (n := un) hc2 k e2 hd2
        have y0 := cellk HM.out.below d0
        have y1 := cellk HM.out.below d1
        have hal2 := below_alloc wr (.cells #[.int .i64 e2.1, .slice xa xm xc] 57)
        have HTK := Lib.hid (fs_take (f := srch1 B a rest m) hd2 hnone)
        have HHIT := Lib.hid (fun y => fs_hit (f := srch1 B a rest m) (y := y) hd2 hnone)
        have hk0 : (0 : Int) ≤ k := by omega
        have hk1 : (k : Int) < un := by omega
        have HCL := Lib.hid (HPF.out (wr.alloc (.cells #[.int .i64 e2.1, .slice xa xm xc] 57)) mv' (HM.out.grow hal2) e2 xa xm xc hints2 (HBU.out e2 (List.mem_of_getElem? hd2)))
        have HSA := Lib.hid hal2.size
        clear hc2 hbw2 d0 d1 hdi2 hints2 hnone hd2 hal2
        go_wp2_with fail
        refine HCL.out.mono ?_
        rintro e w5 ⟨yv, bb, mv2, rfl, hm5, hf5, hs5⟩
        have HM5 := Lib.hid hm5
        have hsz5 : w.heap.size ≤ w5.heap.size := Nat.le_trans hsz (Nat.le_trans HSA.out hs5)
        cases ho : srch1 B a rest m e2 with
        | none =>
          rw [ho] at hf5
          obtain ⟨rfl, rfl⟩ := hf5
          have HO := Lib.hid ho
          clear ho hm5
          go_wp2_with fail
          exact ⟨⟨k + 1, by omega, by simp, by rw [HTK.out, HO.out], mv2, HM5, hsz5⟩, by simp [intOf]; omega⟩
        | some y =>
          rw [ho] at hf5
          have HF5 := Lib.hid hf5
          obtain ⟨rfl, _⟩ := hf5
          have HO := Lib.hid (HHIT.out y ho)
          clear ho hm5
          go_wp2_with fail
          go_ret2
          exact ⟨yv, true, mv2, rfl, HM5.out, by rw [HO.out]; exact HF5.out.wide (Nat.le_trans hsz HSA.out), hsz5⟩
      · obtain rfl : k = un := by omega
        have HTK : Hid (B.take k = B) := List.take_of_length_le (by rw [HLB.out]; exact Nat.le_refl _)
        have HN : Hid (B.findSome? (srch1 B a rest m) = none) := by unfold Hid; rw [← hnone, HTK.out]
        clear hnone
        go_wp2_with fail
        go_ret2
        exact ⟨.slice none 0 0, false, mv', rfl, HM.out, by rw [HN.out]; exact ⟨rfl, rfl⟩, hsz⟩
end Go.Proofs.Ytcabgdaloffcdaa
