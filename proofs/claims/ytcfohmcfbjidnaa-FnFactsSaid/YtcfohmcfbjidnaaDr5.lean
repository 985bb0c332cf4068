/- Contracts of drawing functions that answer memory: what AddFact and RemoveFact are drawn at. -/
import Derived.Test.YtcfohmcfbjidnaaDr4
namespace Go.Proofs.Ytcfohmcfbjidnaa
open Go Go.Sort Go.RowKit
set_option linter.unusedVariables false

/-- A drawn yes or no. -/
def DrawnB (w : World) (S : Value) (len cb : Nat) (e : Ending) (w' : World) : Prop := ∃ b : Bool, e = .returned (.bool b) ∧ Cur w' S len cb ∧ w.grownBy w' (some cb)
theorem l1Once_any (n : Int) (w : World) (S : Value) (len cb : Nat) (h : St w S len cb) (h0 : 1 ≤ n) (h1 : n ≤ 4611686018427387904) :
    Calls Try.prog 61 #[.pointer (some ⟨cb, 0, none⟩), .int .i64 n] w (DrawnB w S len cb) := by
  have hb := Lib.hid (l1Below_any n w S len cb h h0 h1)
  clear h
  go_enter Try.func61, Try.ntmps61
  go_wp2_with fail
  refine hb.out.mono ?_
  rintro e w1 ⟨x, hx0, hx1, rfl, hcur, hg⟩
  have HC := Lib.hid hcur
  have HG := Lib.hid hg
  clear hcur hg
  go_wp2_with fail
  go_ret
  exact ⟨_, rfl, HC.out, HG.out⟩

/-- What the laws of chapter 5 are drawn at: sizes alone are known. -/
def DrewSLF (w : World) (e : Ending) (w' : World) : Prop :=
  ∃ (vs v vf : Value) (s : List Int) (l : List AtomD) (f : AtomD) (b1 b2 b3 : List Nat), e = .returned (.tuple #[vs, v, vf]) ∧ ROSchema w' vs s b1 ∧ ROAtomS w' v l b2 ∧ ROAtom w' vf f b3 ∧ (∀ b, b ∈ b1 ∨ b ∈ b2 ∨ b ∈ b3 → w.heap.size ≤ b) ∧ s.length ≤ 5 ∧ l.length ≤ 34 ∧ (∀ x ∈ l, x.2.length ≤ 4) ∧ f.2.length ≤ 4 ∧ Below w.heap.size w w'

set_option maxRecDepth 100000 in
set_option maxHeartbeats 8000000 in
theorem l5Draw_any (w : World) (S : Value) (len : Nat) (h : Arg w S len) :
    Calls Try.prog 38 #[S] w (DrewSLF w) := by
  have hnew := Lib.hid (fun w h => l1New_any w S len h)
  have hbl := Lib.hid (fun cb n w h h0 h1 => l1Below_any n w S len cb h h0 h1)
  have hon := Lib.hid (fun cb n w h h0 h1 => l1Once_any n w S len cb h h0 h1)
  have han := Lib.hid (fun cb w h => l5Any_any w S len cb h)
  have haf := Lib.hid (fun cb w base sv s h hv hc => l5AnyFact_any w S len cb base sv s h hv hc)
  have hcp := Lib.hid (fun w v f h hz => sCopy5_any w v f h hz)
  have hb0 : ∀ o p, Below w.heap.size w ((w.alloc o).alloc p) := fun o p => ((Below.refl _ _).alloc (Nat.le_refl _) _).alloc (by simp) _
  obtain ⟨wA, hwA⟩ : ∃ wA, wA = (w.alloc (.cells #[.slice none 0 0] 26)).alloc (.cells #[.int .i64 0, .slice none 0 0] 29) := ⟨_, rfl⟩
  have HBA : Hid (Below w.heap.size w wA) := by rw [hwA]; exact hb0 _ _
  have HA := Lib.hid (h.below HBA.out)
  have hAs : wA.heap.size = w.heap.size + 2 := by rw [hwA]; simp
  have HR1 : Hid (wA.heap[w.heap.size]? = some (.cells #[.slice none 0 0] 26 (0, 0))) := by
    unfold Hid
    rw [hwA, (below_alloc (w.alloc (.cells #[.slice none 0 0] 26)) (.cells #[.int .i64 0, .slice none 0 0] 29)).block _ (by simp)]
    exact heap_alloc_new w _
  have HR2 : Hid (wA.heap[w.heap.size + 1]? = some (.cells #[.int .i64 0, .slice none 0 0] 29 (0, 0))) := by
    have := heap_alloc_new (w.alloc (.cells #[.slice none 0 0] 26)) (.cells #[.int .i64 0, .slice none 0 0] 29)
    unfold Hid
    rw [hwA]; simpa using this
  clear h hb0
  go_enter Try.func38, Try.ntmps38
  go_wp2_with fail
  rw [← hwA]
  refine (hnew.out _ HA.out).mono ?_
  rintro e w1 ⟨cb, hcb, rfl, hst, hb⟩
  obtain ⟨r1, hr1⟩ : ∃ r, r = w.heap.size := ⟨_, rfl⟩
  obtain ⟨r2, hr2⟩ : ∃ r, r = w.heap.size + 1 := ⟨_, rfl⟩
  have hst1 := Lib.hid hst
  have hcb1 := hst.cb_lt
  have HB1 := Lib.hid hb
  have hR1 : w1.heap[r1]? = some (.cells #[.slice none 0 0] 26 (0, 0)) := by rw [hr1, hb.block _ (by omega)]; exact HR1.out
  have hR2 : w1.heap[r2]? = some (.cells #[.int .i64 0, .slice none 0 0] 29 (0, 0)) := by rw [hr2, hb.block _ (by omega)]; exact HR2.out
  have hrc1 : r1 ≠ cb := by omega
  have hrc2 : r2 ≠ cb := by omega
  have hr12 : r1 ≠ r2 := by omega
  have hlt1 : r1 < w1.heap.size := heap_lt hR1
  have hlt2 : r2 < w1.heap.size := heap_lt hR2
  have hcbw : w.heap.size ≤ cb := by omega
  have hlow1 : w.heap.size ≤ r1 := by omega
  have hlow2 : w.heap.size ≤ r2 := by omega
  rw [← hr2, ← hr1]
  clear hst hb HA HR1 HR2 hwA hAs
  go_wp2_with fail
  try rw [← hr2]
  try rw [← hr1]
  clear hr1 hr2
  refine (han.out cb _ hst1.out).mono ?_
  rintro e w2 ⟨xv, s, v, l, rfl, hox, hs5, hL, hl34, hl4, hd⟩
  obtain ⟨oa, oc, rfl⟩ := hox.shape
  have hLs := hL.rd
  obtain ⟨a, n, c, rfl, hsl⟩ := hLs
  have hln := hsl.at.1
  obtain ⟨sn, hsn⟩ : ∃ n, s.length = n := ⟨_, rfl⟩
  have HSN := Lib.hid hsn
  rw [hsn] at hox ⊢
  obtain ⟨B, hB⟩ : ∃ B, B = w1.heap.size := ⟨_, rfl⟩
  rw [← hB] at hox hL hcb1 hlt1 hlt2
  have hba := below_alloc w2 (.cells #[.slice oa sn oc] 26)
  have hrow := heap_alloc_new w2 (.cells #[.slice oa sn oc] 26)
  have HL34 := Lib.hid hl34
  have HL4 := Lib.hid hl4
  have HS5 := Lib.hid hs5
  obtain ⟨w3, hw3⟩ : ∃ w3, w3 = w2.alloc (.cells #[.slice oa sn oc] 26) := ⟨_, rfl⟩
  obtain ⟨fb, hfb⟩ : ∃ fb, fb = w2.heap.size := ⟨_, rfl⟩
  have HBS : Hid (B ≤ w3.heap.size) := by have := hd.size; have := hba.size; rw [hw3]; unfold Hid; omega
  rw [← hw3] at hba hrow
  rw [← hfb] at hrow
  have hfc : fb ≠ cb := by have := hd.size; omega
  have HD : Hid (DSt w1 w3 S len cb) := hd.below hba
  have HO : Hid (OwI B w3 (.slice oa sn oc) s) := hox.below hba
  have HL : Hid (DFs B w3 (.slice a n c) l) := hL.below hba
  have hst3 := Lib.hid (DSt.start HD.out.st)
  have HK : Hid (∀ w', DSt w3 w' S len cb → w'.cell? ⟨fb, 0, none⟩ = some (.slice oa sn oc) ∧ w'.cell? ⟨r1, 0, none⟩ = some (.slice none 0 0) ∧ w'.frozen? ⟨r1, 0, none⟩ = false ∧ w'.cell? ⟨r2, 0, none⟩ = some (.int .i64 0) ∧ w'.frozen? ⟨r2, 0, none⟩ = false ∧ w'.cell? ⟨r2, 1, none⟩ = some (.slice none 0 0) ∧ w'.frozen? ⟨r2, 1, none⟩ = false) := fun w' h' => by
    have h1 := HD.out.trans h'
    have kf : w3.cell? ⟨fb, 0, none⟩ = some (.slice oa sn oc) := by rw [cell_of_row w3 fb 0 _ _ _ hrow]; rfl
    have e1 : w'.heap[r1]? = some (.cells #[.slice none 0 0] 26 (0, 0)) := by rw [h1.2.1.block _ (heap_lt hR1) (by simpa using hrc1)]; exact hR1
    have e2 : w'.heap[r2]? = some (.cells #[.int .i64 0, .slice none 0 0] 29 (0, 0)) := by rw [h1.2.1.block _ (heap_lt hR2) (by simpa using hrc2)]; exact hR2
    refine ⟨h'.cell hfc kf, ?_, frozen_of_row _ _ 0 _ _ e1, ?_, frozen_of_row _ _ 0 _ _ e2, ?_, frozen_of_row _ _ 1 _ _ e2⟩
    · rw [cell_of_row _ _ 0 _ _ _ e1]; rfl
    · rw [cell_of_row _ _ 0 _ _ _ e2]; rfl
    · rw [cell_of_row _ _ 1 _ _ _ e2]; rfl
  have HEND : Hid (∀ w5 r fa fn fc fl bs, DSt w3 w5 S len cb → inI r → OInts w5 (.slice fa fn fc) fl bs → (∀ b ∈ bs, B ≤ b) → fl.length ≤ 4 → DrewSLF w (.returned (.tuple #[.agg #[.slice oa sn oc], .slice a n c, .agg #[.int .i64 r, .slice fa fn fc]])) (((w5.setCell ⟨r1, 0, none⟩ (.slice oa sn oc)).setCell ⟨r2, 0, none⟩ (.int .i64 r)).setCell ⟨r2, 1, none⟩ (.slice fa fn fc))) := by
    intro w5 r fa fn fc fl bs hd5 hri ho5 hlo hf4
    have k : OnlyAt [r1, r2] w5 (((w5.setCell ⟨r1, 0, none⟩ (.slice oa sn oc)).setCell ⟨r2, 0, none⟩ (.int .i64 r)).setCell ⟨r2, 1, none⟩ (.slice fa fn fc)) := ((OnlyAt.setCell _ r1 0 _).wider (by simp)).same (((OnlyAt.setCell _ r2 0 _).wider (by simp)).same ((OnlyAt.setCell _ r2 1 _).wider (by simp)))
    have ho' := HO.out.draw hcb1 hd5
    have hs := ho'.only k (fun b hb hm => by have := (ho'.lo b hb).1; simp at hm; omega)
    have hl := (HL.out.draw hcb1 hd5).only (Nat.le_refl _) k (fun b hb => by simp at hb; omega)
    have hf := ho5.onlyAt k (fun b hb hm => by have := hlo b hb; simp at hm; omega)
    have h1 : Below w.heap.size w w1 := bnext HBA.out HB1.out
    have h2 := OnlyAt.below h1 (HD.out.trans hd5).2.1 (fun b hb => by simp at hb; omega)
    have h3 := OnlyAt.below h2 k (fun b hb => by simp at hb; omega)
    have h4 := h1.size
    obtain ⟨b1, q1, _, q2⟩ := hs.owns
    obtain ⟨b2, q3, _, q4⟩ := hl.done
    exact ⟨_, _, _, s, l, (r, fl), b1, b2, bs, rfl, ⟨_, _, _, rfl, q1⟩, q3, ⟨_, _, _, rfl, hri, hf⟩, fun b hb => by
      rcases hb with hb | hb | hb
      · have := (q2 b hb).1; omega
      · have := (q4 b hb).1; omega
      · have := hlo b hb; omega, HS5.out, HL34.out, HL4.out, hf4, h3⟩
  obtain ⟨p1, p2, p3, p4, p5, p6, p7⟩ := HK.out _ hst3.out
  clear hd hox hL hsn hl34 hl4 hs5 hrow hba hR1 hR2
  clear hB
  by_cases h0 : n = 0
  · subst h0
    clear hsl
    go_wp2_with fail
    rw [← hfb, ← hw3]
    clear hw3 hfb
    go_region_law (first
      | (go_simp; go_at_call 63; refine (haf.out cb _ B _ s (hst3.out.below ((Below.refl _ _).drew)).st (HO.out.draw hcb1 (hst3.out.below ((Below.refl _ _).drew))) hcb1).mono ?_; rintro e2 w5 ⟨r, yv, fl, rfl, hri, hoy, _, hf4, hd5⟩; have HD5 := Lib.hid ((hst3.out.below ((Below.refl _ _).drew)).trans hd5); obtain ⟨m1, m2, m3, m4, m5, m6, m7⟩ := HK.out _ HD5.out; have HRI := Lib.hid hri; obtain ⟨bs5, ho5, _, hlo5⟩ := hoy.owns; obtain ⟨ya, yc, rfl⟩ := hoy.shape; have HO5 := Lib.hid ho5; have HLO5 : Hid (∀ b ∈ bs5, B ≤ b) := (fun b hb => by have h1 := (hlo5 b hb).1; have h2 := hst3.out.size; have h3 := HBS.out; simp at h1; omega); clear hri hoy hd5 ho5 hlo5))
    all_goals (go_wp2_with fail)
    all_goals
      exact bodyPost_ret (v := .tuple #[.agg #[.slice oa sn oc], .slice a 0 c, .agg #[.int .i64 r, .slice ya fl.length yc]]) (by simp [results, Try.results38, go_sem, m2, m4, m6]) rfl (HEND.out w5 r ya fl.length yc fl bs5 HD5.out HRI.out HO5.out HLO5.out hf4)
  · obtain ⟨b, off, rfl, _, _⟩ := hsl.at.2.2.2 (by omega)
    have hn0 : (0 : Int) < n := by omega
    have hn1 : 0 < n := by omega
    have hn34 : n ≤ 34 := by have := HL34.out; omega
    have HAT : Hid (∀ w', DSt w3 w' S len cb → ∀ x, x < n → ∃ e ea em ec, l[x]? = some e ∧ w'.cell? ⟨b, off + x * 2, none⟩ = some (.int .i64 e.1) ∧ w'.cell? ⟨b, off + x * 2 + 1, none⟩ = some (.slice ea em ec) ∧ inI e.1 ∧ Ints w' (.slice ea em ec) e.2) := fun w' h' x hx => by
      obtain ⟨_, _, _, he, hsl'⟩ := (HL.out.draw hcb1 h').rd
      cases he
      obtain ⟨b', off', he, _, hc⟩ := hsl'.at.2.2.2 (by omega)
      cases he
      obtain ⟨e, hd⟩ : ∃ e, l[x]? = some e := ⟨l[x]'(by omega), List.getElem?_eq_getElem (by omega)⟩
      obtain ⟨ea, em, ec, c0, c1, hdi, hints⟩ := atomAt (n := n) hc x e hd
      exact ⟨e, ea, em, ec, hd, c0, c1, hdi, hints⟩
    clear hsl
    go_wp2_with fail
    rw [← hfb, ← hw3]
    clear hw3 hfb
    refine (hon.out cb 2 _ hst3.out.st (by omega) (by omega)).mono ?_
    rintro e w4 ⟨q, rfl, hcur, hg⟩
    have HD4 := Lib.hid (hst3.out.draw hcur hg)
    clear hcur hg p1 p2 p3 p4 p5 p6 p7
    obtain ⟨p1, p2, p3, p4, p5, p6, p7⟩ := HK.out _ HD4.out
    cases q with
    | false =>
      go_wp2_with fail
      go_region_law (first
        | (go_simp; go_at_call 63; refine (haf.out cb _ B _ s (HD4.out.below ((Below.refl _ _).drew)).st (HO.out.draw hcb1 (HD4.out.below ((Below.refl _ _).drew))) hcb1).mono ?_; rintro e2 w5 ⟨r, yv, fl, rfl, hri, hoy, _, hf4, hd5⟩; have HD5 := Lib.hid ((HD4.out.below ((Below.refl _ _).drew)).trans hd5); obtain ⟨m1, m2, m3, m4, m5, m6, m7⟩ := HK.out _ HD5.out; have HRI := Lib.hid hri; obtain ⟨bs5, ho5, _, hlo5⟩ := hoy.owns; obtain ⟨ya, yc, rfl⟩ := hoy.shape; have HO5 := Lib.hid ho5; have HLO5 : Hid (∀ b ∈ bs5, B ≤ b) := (fun b hb => by have h1 := (hlo5 b hb).1; have h2 := HD4.out.size; have h3 := HBS.out; simp at h1; omega); clear hri hoy hd5 ho5 hlo5))
      all_goals (go_wp2_with fail)
      all_goals
        exact bodyPost_ret (v := .tuple #[.agg #[.slice oa sn oc], .slice (some ⟨b, off, none⟩) n c, .agg #[.int .i64 r, .slice ya fl.length yc]]) (by simp [results, Try.results38, go_sem, m2, m4, m6]) rfl (HEND.out w5 r ya fl.length yc fl bs5 HD5.out HRI.out HO5.out HLO5.out hf4)
    | true =>
      go_wp2_with fail
      go_region_law (first
        | (go_simp; go_at_call 62; refine (hbl.out cb n _ (HD4.out.below ((Below.refl _ _).drew)).st (by omega) (by omega)).mono ?_; rintro e2 w5 ⟨x, hx0, hx1, rfl, hcur, hg⟩; obtain ⟨x, rfl⟩ := Int.eq_ofNat_of_zero_le hx0; have HD5 := Lib.hid ((HD4.out.below ((Below.refl _ _).drew)).draw hcur hg); obtain ⟨m1, m2, m3, m4, m5, m6, m7⟩ := HK.out _ HD5.out; have hx2 : (x : Int) < n := (by omega); have hx3 : x < n := (by omega); obtain ⟨e, ea, em, ec, hex, c0, c1, hei, hes⟩ := HAT.out _ HD5.out x hx3; have HEI := Lib.hid hei; have HES := Lib.hid hes; have HE4 := Lib.hid (HL4.out e (List.mem_of_getElem? hex)); clear hcur hg hex hei hes)
        | (go_simp; go_at_call 51; refine (hcp.out _ _ e ⟨ea, em, ec, rfl, HEI.out, HES.out⟩ (by have := HE4.out; omega)).mono ?_; rintro e3 w6 ⟨v2, bs2, rfl, ⟨a2, n2, c2, rfl, hr2, ho2⟩, hf2, hb2⟩; have HD6 := Lib.hid (HD5.out.below hb2); obtain ⟨k1, k2, k3, k4, k5, k6, k7⟩ := HK.out _ HD6.out; have HO6 := Lib.hid ho2; have HLO6 : Hid (∀ b ∈ bs2, B ≤ b) := (fun b hb => by have h1 := hf2.lo b hb; have h2 := HD5.out.size; have h3 := HBS.out; omega); clear hr2 ho2 hf2 hb2))
      all_goals (go_wp2_with fail)
      all_goals
        exact bodyPost_ret (v := .tuple #[.agg #[.slice oa sn oc], .slice (some ⟨b, off, none⟩) n c, .agg #[.int .i64 e.1, .slice a2 n2 c2]]) (by simp [results, Try.results38, go_sem, k2, k4, k6]) rfl (HEND.out w6 e.1 a2 n2 c2 e.2 bs2 HD6.out HEI.out HO6.out HLO6.out HE4.out)
end Go.Proofs.Ytcfohmcfbjidnaa
