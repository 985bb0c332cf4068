/- What FnTerms is drawn at: DrawIsTerm, DrawMakeConst, DrawReplaceTerm, DrawRenameQuery, DrawLessAtom, DrawIsAtom. -/
import Derived.Test.YtpedpbbiamhgdaaDqAll
namespace Go.Proofs.Ytpedpbbiamhgdaa
open Go Go.Sort Go.RowKit
set_option linter.unusedVariables false
set_option linter.unusedSimpArgs false

def DrewI13 (w : World) (e : Ending) (w' : World) : Prop := ∃ x : Int, inI x ∧ e = .returned (.int .i64 x) ∧ Below w.heap.size w w'
def DrewRT (w : World) (e : Ending) (w' : World) : Prop := ∃ (qv : Value) (d : QueryD) (t u : Int), e = .returned (.tuple #[qv, .int .i64 t, .int .i64 u]) ∧ RdQuery w' qv d ∧ QBd 3 4 d ∧ inI t ∧ inI u ∧ Below w.heap.size w w'
def DrewRN (w : World) (e : Ending) (w' : World) : Prop := ∃ (qv : Value) (d : QueryD) (v : Value) (l : List Int), e = .returned (.tuple #[qv, v]) ∧ RdQuery w' qv d ∧ QBd 3 4 d ∧ Ints w' v l ∧ l.length ≤ 4 ∧ Below w.heap.size w w'
def DrewAA (w : World) (e : Ending) (w' : World) : Prop := ∃ (v1 v2 : Value) (a b : AtomD), e = .returned (.tuple #[v1, v2]) ∧ RdAtom w' v1 a ∧ RdAtom w' v2 b ∧ a.2.length ≤ 4 ∧ b.2.length ≤ 4 ∧ Below w.heap.size w w'
def DrewSA (w : World) (e : Ending) (w' : World) : Prop := ∃ (sv : Value) (s : List Int) (v : Value) (a : AtomD), e = .returned (.tuple #[sv, v]) ∧ RdSchema w' sv s ∧ s.length ≤ 5 ∧ RdAtom w' v a ∧ a.2.length ≤ 4 ∧ Below w.heap.size w w'

set_option maxHeartbeats 4000000 in
theorem drawIsTerm_any (w : World) (S : Value) (len : Nat) (h : Arg w S len) :
    Calls Try.prog 6 #[S] w (DrewI13 w) := by
  have hnw := Lib.hid (fun w h => l1New_any w S len h)
  have han := Lib.hid (fun w cb h => l2Any_any w S len cb h)
  have HA := Lib.hid h
  clear h
  go_enter Try.func6, Try.ntmps6
  go_wp2_with fail
  refine (hnw.out _ HA.out).mono ?_
  rintro e w1 ⟨cb, hcb, rfl, hst, hb1⟩
  have HST := Lib.hid hst
  have HB1 := Lib.hid hb1
  clear hst hb1
  go_wp2_with fail
  refine (han.out w1 cb HST.out).mono ?_
  rintro e w2 ⟨x, hx0, hx1, rfl, hcur, hg⟩
  have HB2 := Lib.hid (DSt.belowN HB1.out ((DSt.start HST.out).draw hcur hg) hcb)
  clear hcur hg
  go_wp2_with fail
  go_ret
  exact ⟨x, ⟨hx0, hx1⟩, rfl, HB2.out⟩

set_option maxHeartbeats 4000000 in
theorem drawMakeConst_any (w : World) (S : Value) (len : Nat) (h : Arg w S len) :
    Calls Try.prog 7 #[S] w (DrewI13 w) := by
  have hnw := Lib.hid (fun w h => l1New_any w S len h)
  have hpi := Lib.hid (fun g n xs w cb h hn0 hn1 hg hx hc hr => l1PickInt_any g n xs w S len cb h hn0 hn1 hg hx hc hr)
  have HA := Lib.hid h
  clear h
  go_enter Try.func7, Try.ntmps7
  go_wp2_with fail
  refine (hnw.out _ HA.out).mono ?_
  rintro e w1 ⟨cb, hcb, rfl, hst, hb1⟩
  have HST := Lib.hid hst
  have HB1 := Lib.hid hb1
  have hlt := hst.cb_lt
  clear hst hb1
  go_wp2_with fail
  refine (hpi.out _ 5 [-1, 0, 5, 79, 80] _ cb (HST.out.alloc _) (by omega) (by omega) (by omega) rfl (heap_alloc_new _ _) (by intro x hx; simp at hx; omega)).mono ?_
  rintro e w2 ⟨x, hx0, hx1, rfl, hcur, hg⟩
  have HB2 := Lib.hid (DSt.belowN HB1.out (((DSt.start HST.out).below (below_alloc _ _)).draw hcur hg) hcb)
  clear hcur hg
  go_wp2_with fail
  go_ret
  exact ⟨x, ⟨hx0, hx1⟩, rfl, HB2.out⟩

set_option maxRecDepth 100000 in
set_option maxHeartbeats 8000000 in
theorem drawReplace_any (w : World) (S : Value) (len : Nat) (h : Arg w S len) :
    Calls Try.prog 15 #[S] w (DrewRT w) := by
  have hnw := Lib.hid (fun w h => l1New_any w S len h)
  have han := Lib.hid (fun w cb h => l4Any_any w S len cb h)
  have htm := Lib.hid (fun w cb h => l2Term_any w S len cb h)
  have HBA := Lib.hid (below_alloc w (.cells #[.slice none 0 0, .slice none 0 0] 30))
  have HA := Lib.hid (h.below HBA.out)
  have HR := Lib.hid (heap_alloc_new w (.cells #[.slice none 0 0, .slice none 0 0] 30))
  clear h
  go_enter Try.func15, Try.ntmps15
  go_wp2_with fail
  obtain ⟨rb, hrb⟩ : ∃ x, x = w.heap.size := ⟨_, rfl⟩
  rw [← hrb] at HR
  simp only [← hrb]
  have hsA : (w.alloc (.cells #[.slice none 0 0, .slice none 0 0] 30)).heap.size = w.heap.size + 1 := by simp
  generalize (w.alloc (.cells #[.slice none 0 0, .slice none 0 0] 30)) = wA at *
  have HRB := Lib.hid hrb
  clear hrb
  refine (hnw.out _ HA.out).mono ?_
  rintro e w1 ⟨cb, hcb, rfl, hst, hb1⟩
  have HST := Lib.hid hst
  have HB1 := Lib.hid (bnext HBA.out hb1)
  have hr1 : w1.heap[rb]? = some (.cells #[.slice none 0 0, .slice none 0 0] 30 (0, 0)) := by rw [hb1.block rb (by have := HRB.out; omega)]; exact HR.out
  have HR1 := Lib.hid hr1
  have hs1 := hb1.size
  have hcb1 := hst.cb_lt
  clear hst hb1 hr1
  go_wp2_with fail
  refine (han.out w1 cb HST.out).mono ?_
  rintro e w2 ⟨xv, s, hv, bv, d, rfl, hox, hs5, hoh, hoa, hqb, hd⟩
  obtain ⟨xa, xc, rfl⟩ := hox.shape
  obtain ⟨hd1, hd2⟩ := d
  obtain ⟨ha, hc, rfl⟩ := hoh.shape
  obtain ⟨ba, bc, rfl⟩ := hoa.shape
  have hs2 := hd.size
  have HB2 := Lib.hid (DSt.belowN HB1.out hd (by omega))
  simp only at hoh hoa ⊢
  obtain ⟨w3, hw3⟩ : ∃ w3, w3 = (w2.alloc (.cells #[.slice xa s.length xc] 41)).alloc (.cells #[.slice ha hd1.length hc, .slice ba hd2.length bc] 30) := ⟨_, rfl⟩
  have hbb : Below w2.heap.size w2 w3 := by rw [hw3]; exact ((Below.refl _ _).alloc (Nat.le_refl _) _).alloc (by simp) _
  obtain ⟨f2, hf2⟩ : ∃ r, r = w2.heap.size + 1 := ⟨_, rfl⟩
  obtain ⟨f1, hf1⟩ : ∃ r, r = w2.heap.size := ⟨_, rfl⟩
  have c2 : w3.cell? ⟨f2, 0, none⟩ = some (.slice ha hd1.length hc) := by rw [hw3, hf2]; simp
  have c3 : w3.cell? ⟨f2, 1, none⟩ = some (.slice ba hd2.length bc) := by rw [hw3, hf2]; simp
  have HD3 := Lib.hid (((DSt.start HST.out).trans hd).below hbb)
  have HOH := Lib.hid (hoh.below hbb)
  have HOA : Hid (DAs w1.heap.size w3 (.slice ba hd2.length bc) hd2) := hoa.below hbb
  have HRQ : Hid (∀ wf t u, inI t → inI u → OnlyAt [cb, rb] w3 wf → DrewRT w (.returned (.tuple #[.agg #[.slice ha hd1.length hc, .slice ba hd2.length bc], .int .i64 t, .int .i64 u])) wf) := Lib.hid (fun wf t u ht hu k => by
    have h1 := HOH.out.only k (fun b hb hm => by have := HOH.out.lo b hb; have := HRB.out; simp at hm; omega)
    have h2 := HOA.out.only (Nat.le_refl _) k (fun b hm => by have := HRB.out; simp at hm; omega)
    exact ⟨_, (hd1, hd2), t, u, rfl, OwQ_rd (d := (hd1, hd2)) h1 h2, hqb, ht, hu, OnlyAt.below (bnext HB2.out hbb) k (fun b hm => by have := HRB.out; simp at hm; omega)⟩)
  have hr3 : w3.heap[rb]? = some (.cells #[.slice none 0 0, .slice none 0 0] 30 (0, 0)) := by rw [hbb.block rb (by have := HRB.out; omega), hd.2.1.block rb (by have := HRB.out; omega) (by have := HRB.out; simp; omega)]; exact HR1.out
  have HR3 := Lib.hid hr3
  have hn1 : rb ≠ cb := by have := HRB.out; omega
  have hn2 : f2 ≠ cb := by omega
  have hn3 : rb ≠ f2 := by have := HRB.out; omega
  have HW3 := Lib.hid hw3
  have HF2 := Lib.hid hf2
  have HF1 := Lib.hid hf1
  clear hox hoh hoa hqb hd hbb hr3 hw3 hf2 hf1
  go_upto_region 3 with fail
  rw [← HW3.out, ← HF2.out, ← HF1.out]
  clear HW3 HF2 HF1
  go_wp2_with fail
  refine (htm.out w3 cb HD3.out.st).mono ?_
  rintro e w4 ⟨t, ht0, ht1, rfl, hcur, hg⟩
  have hd4 := (DSt.start HD3.out.st).draw hcur hg
  have HD4 := Lib.hid (HD3.out.draw hcur hg)
  have HK4 := Lib.hid hd4.2.1
  replace c2 := hd4.cell hn2 c2
  replace c3 := hd4.cell hn2 c3
  have hr4 : w4.heap[rb]? = some (.cells #[.slice none 0 0, .slice none 0 0] 30 (0, 0)) := by rw [hd4.2.1.block rb (heap_lt HR3.out) (by simpa using hn1)]; exact HR3.out
  have HR4 := Lib.hid hr4
  clear hcur hg hd4 hr4
  go_wp2_with fail
  go_region_law (first
    | (go_simp; go_at_call 48; refine (htm.out _ cb (HD4.out.below (Below.refl _ _).drew).st).mono ?_; rintro e2 w5 ⟨u, hu0, hu1, rfl, hcur, hg⟩; have hd5 := (DSt.start (HD4.out.below (Below.refl _ _).drew).st).draw hcur hg; have q2 := hd5.cell hn2 (cellk (Below.refl w4.heap.size w4).drew c2); have q3 := hd5.cell hn2 (cellk (Below.refl w4.heap.size w4).drew c3); have HK5 := Lib.hid ((HK4.out.same (OnlyAt.ofBelow _ (Below.refl w4.heap.size w4).drew)).same hd5.2.1); have hr5 : w5.heap[rb]? = some (.cells #[.slice none 0 0, .slice none 0 0] 30 (0, 0)) := ((hd5.2.1.block rb (by have := heap_lt HR4.out; simpa using this) (by simpa using hn1)).trans (((Below.refl w4.heap.size w4).drew).block rb (heap_lt HR4.out))).trans HR4.out; have k0 : w5.cell? ⟨rb, 0, none⟩ = some (.slice none 0 0) := by { rw [cell_of_row _ rb 0 _ _ _ hr5]; rfl }; have k1 : w5.cell? ⟨rb, 1, none⟩ = some (.slice none 0 0) := by { rw [cell_of_row _ rb 1 _ _ _ hr5]; rfl }; have f0 := frozen_of_row _ rb 0 _ _ hr5; have f1 := frozen_of_row _ rb 1 _ _ hr5; clear hcur hg hd5 hr5))
  all_goals (go_wp2_with fail)
  all_goals exact bodyPost_ret (v := .tuple #[.agg #[.slice ha hd1.length hc, .slice ba hd2.length bc], .int .i64 t, .int .i64 u]) (by simp [results, Try.results15, go_sem, k0, k1]) rfl (HRQ.out _ t u ⟨by omega, by omega⟩ ⟨by omega, by omega⟩ (((HK5.out.wider (by simp)).same ((OnlyAt.setCell _ rb 0 _).wider (by simp))).same ((OnlyAt.setCell _ rb 1 _).wider (by simp))))

set_option maxRecDepth 100000 in
set_option maxHeartbeats 8000000 in
theorem drawRenameQuery_any (w : World) (S : Value) (len : Nat) (h : Arg w S len) :
    Calls Try.prog 17 #[S] w (DrewRN w) := by
  have hnw := Lib.hid (fun w h => l1New_any w S len h)
  have han := Lib.hid (fun w cb h => l4Any_any w S len cb h)
  have htm := Lib.hid (fun w cb h => l2Term_any w S len cb h)
  have hbl := Lib.hid (fun cb n w h h0 h1 => l1Below_any n w S len cb h h0 h1)
  have HBA := Lib.hid (below_alloc w (.cells #[.slice none 0 0, .slice none 0 0] 30))
  have HA := Lib.hid (h.below HBA.out)
  have HR := Lib.hid (heap_alloc_new w (.cells #[.slice none 0 0, .slice none 0 0] 30))
  clear h
  go_enter Try.func17, Try.ntmps17
  go_wp2_with fail
  obtain ⟨rb, hrb⟩ : ∃ x, x = w.heap.size := ⟨_, rfl⟩
  rw [← hrb] at HR
  simp only [← hrb]
  have hsA : (w.alloc (.cells #[.slice none 0 0, .slice none 0 0] 30)).heap.size = w.heap.size + 1 := by simp
  generalize (w.alloc (.cells #[.slice none 0 0, .slice none 0 0] 30)) = wA at *
  have HRB := Lib.hid hrb
  clear hrb
  refine (hnw.out _ HA.out).mono ?_
  rintro e w1 ⟨cb, hcb, rfl, hst, hb1⟩
  have HST := Lib.hid hst
  have HB1 := Lib.hid (bnext HBA.out hb1)
  have hr1 : w1.heap[rb]? = some (.cells #[.slice none 0 0, .slice none 0 0] 30 (0, 0)) := by rw [hb1.block rb (by have := HRB.out; omega)]; exact HR.out
  have HR1 := Lib.hid hr1
  have hs1 := hb1.size
  have hcb1 := hst.cb_lt
  clear hst hb1 hr1
  go_wp2_with fail
  refine (han.out w1 cb HST.out).mono ?_
  rintro e w2 ⟨xv, s, hv, bv, d, rfl, hox, hs5, hoh, hoa, hqb, hd⟩
  obtain ⟨xa, xc, rfl⟩ := hox.shape
  obtain ⟨hd1, hd2⟩ := d
  obtain ⟨ha, hc, rfl⟩ := hoh.shape
  obtain ⟨ba, bc, rfl⟩ := hoa.shape
  have hs2 := hd.size
  have HB2 := Lib.hid (DSt.belowN HB1.out hd (by omega))
  simp only at hoh hoa ⊢
  obtain ⟨w3, hw3⟩ : ∃ w3, w3 = (w2.alloc (.cells #[.slice xa s.length xc] 41)).alloc (.cells #[.slice ha hd1.length hc, .slice ba hd2.length bc] 30) := ⟨_, rfl⟩
  have hbb : Below w2.heap.size w2 w3 := by rw [hw3]; exact ((Below.refl _ _).alloc (Nat.le_refl _) _).alloc (by simp) _
  obtain ⟨f2, hf2⟩ : ∃ r, r = w2.heap.size + 1 := ⟨_, rfl⟩
  obtain ⟨f1, hf1⟩ : ∃ r, r = w2.heap.size := ⟨_, rfl⟩
  have c2 : w3.cell? ⟨f2, 0, none⟩ = some (.slice ha hd1.length hc) := by rw [hw3, hf2]; simp
  have c3 : w3.cell? ⟨f2, 1, none⟩ = some (.slice ba hd2.length bc) := by rw [hw3, hf2]; simp
  have hf2l : f2 < w3.heap.size := World.block_lt_of_cell? _ _ c2
  have HD3 := Lib.hid (((DSt.start HST.out).trans hd).below hbb)
  have HOH := Lib.hid (hoh.below hbb)
  have HOA : Hid (DAs w1.heap.size w3 (.slice ba hd2.length bc) hd2) := hoa.below hbb
  have hr3 : w3.heap[rb]? = some (.cells #[.slice none 0 0, .slice none 0 0] 30 (0, 0)) := by rw [hbb.block rb (by have := HRB.out; omega), hd.2.1.block rb (by have := HRB.out; omega) (by have := HRB.out; simp; omega)]; exact HR1.out
  have HR3 := Lib.hid hr3
  have hs3 := hbb.size
  have hn1 : rb ≠ cb := by have := HRB.out; omega
  have hn2 : f2 ≠ cb := by omega
  have HRQ : Hid (∀ wr wf v l, OnlyAt [cb] w3 wr → OnlyAt [rb] wr wf → Ints wf v l → l.length ≤ 4 → DrewRN w (.returned (.tuple #[.agg #[.slice ha hd1.length hc, .slice ba hd2.length bc], v])) wf) := Lib.hid (fun wr wf v l k1 k2 hv hl => by
    have k : OnlyAt [cb, rb] w3 wf := (k1.wider (by simp)).same (k2.wider (by simp))
    have h1 := HOH.out.only k (fun b hb hm => by have := HOH.out.lo b hb; have := HRB.out; simp at hm; omega)
    have h2 := HOA.out.only (Nat.le_refl _) k (fun b hm => by have := HRB.out; simp at hm; omega)
    exact ⟨_, (hd1, hd2), v, l, rfl, OwQ_rd (d := (hd1, hd2)) h1 h2, hqb, hv, hl, OnlyAt.below (bnext HB2.out hbb) k (fun b hm => by have := HRB.out; simp at hm; omega)⟩)
  have HW3 := Lib.hid hw3
  have HF2 := Lib.hid hf2
  have HF1 := Lib.hid hf1
  have HC2 := Lib.hid c2
  have HC3 := Lib.hid c3
  clear hox hoh hoa hqb hd hbb hr3 hw3 hf2 hf1 c2 c3
  go_upto_region 3 with fail
  rw [← HW3.out, ← HF2.out, ← HF1.out]
  clear HW3 HF2 HF1
  have HD4 : Hid (DSt w3 (w3.alloc (.cells #[] 3)) S len cb) := Lib.hid ((DSt.start HD3.out.st).below (below_alloc _ _))
  have HL4 : Hid (OwI w3.heap.size (w3.alloc (.cells #[] 3)) (.slice (some ⟨w3.heap.size, 0, none⟩) 0 0) []) := Lib.hid (OwI.lit w3.heap.size w3 [] (Nat.le_refl _) (by simp [maxLen]) (fun x hx => by simp at hx))
  have hcb3 : cb < w3.heap.size := by omega
  go_wp2_with fail
  refine (hbl.out cb 5 _ HD4.out.st (by omega) (by omega)).mono ?_
  rintro e w5 ⟨x, hx0, hx1, rfl, hcur, hg⟩
  have HD5 := Lib.hid (HD4.out.draw hcur hg)
  have HL5 := Lib.hid (HL4.out.only (grownBy_only hg) (fun b hb hm => by have := HL4.out.lo b hb; simp at hm; omega))
  obtain ⟨x, rfl⟩ := Int.eq_ofNat_of_zero_le hx0
  obtain ⟨v0, hv0⟩ : ∃ x, x = (Value.slice (some ⟨w3.heap.size, 0, none⟩) 0 0) := ⟨_, rfl⟩
  rw [← hv0] at HL5
  clear hcur hg HD4 HL4
  go_wp2_with fail
  rw [← hv0]
  clear hv0
  go_loopw [7, 8] (fun ov nv wr => ∃ (k : Nat) (l : List Int), nv = .int .i64 k ∧ k + l.length ≤ 4 ∧ Hid (OwI w3.heap.size wr ov l) ∧ Hid (DSt w3 wr S len cb)) (fun _ nv _ => (intOf nv).toNat)
  case atStart => exact ⟨x, [], rfl, by simp; omega, HL5, HD5⟩
  case round =>
    clear HL5 HD5
    obtain ⟨k, l, rfl, hkl, HL, HD⟩ := hrel
    obtain ⟨ov, hov⟩ : ∃ ov, ov = u7 := ⟨_, rfl⟩
    subst hov
    by_cases hk0 : 0 < k
    · have hcbr := HD.out.st.cb_lt
      go_wp2_with fail
      refine (htm.out _ cb HD.out.st).mono ?_
      rintro e w6 ⟨y, hy0, hy1, rfl, hcur, hg⟩
      have HD6 := Lib.hid (HD.out.draw hcur hg)
      have HL6 := Lib.hid (HL.out.only (grownBy_only hg) (fun b hb hm => by have := HL.out.lo b hb; simp at hm; omega))
      obtain ⟨Wh, hWh, hbt⟩ := HL6.out.built
      have HBT := Lib.hid hbt
      clear hcur hg hbt
      go_wp2_with (at_builtin; refine wpList_app1D rfl (.tmp 26) (.tmp 28) 27 rfl 3 (.int .i64 0) 1 8 Try.underlying27 info_intD (by decide) (by decide) (by rfl) ov l.length (l.map (Value.int .i64)) rfl HBT.out [.int .i64 y] rfl (by simp [Value.oneCell']) (by first | rfl | (simp; rfl)) (by omega) ?_)
      intro v' w7 hown' ko hbl
      have HL7 : Hid (OwI w3.heap.size w7 v' (l ++ [y])) := Lib.hid (OwI.of (Built.ofC hown') (by omega) (fun z hz => (List.mem_append.1 hz).elim (HL6.out.2.2 z) (fun hz => by simp at hz; rw [hz]; exact ⟨by omega, by omega⟩)))
      have HD7 := Lib.hid (HD6.out.only ko (fun b hb => (HL6.out.lo b hb).1))
      clear hown' ko hbl HBT
      go_wp2_with fail
      exact ⟨⟨k - 1, l ++ [y], by rw [show ((k : Int) - 1) = ((k - 1 : Nat) : Int) from by omega], by simp; omega, HL7, HD7⟩, by simp [intOf]; omega⟩
    · obtain rfl : k = 0 := by omega
      have k2 := HD.out.cell hn2 HC2.out
      have k3 := HD.out.cell hn2 HC3.out
      have hr5 : wr.heap[rb]? = some (.cells #[.slice none 0 0, .slice none 0 0] 30 (0, 0)) := by rw [HD.out.2.1.block rb (heap_lt HR3.out) (by simpa using hn1)]; exact HR3.out
      have k0 : wr.cell? ⟨rb, 0, none⟩ = some (.slice none 0 0) := by rw [cell_of_row _ rb 0 _ _ _ hr5]; rfl
      have k1 : wr.cell? ⟨rb, 1, none⟩ = some (.slice none 0 0) := by rw [cell_of_row _ rb 1 _ _ _ hr5]; rfl
      have f0 := frozen_of_row _ rb 0 _ _ hr5
      have f1 := frozen_of_row _ rb 1 _ _ hr5
      have hrl := heap_lt HR3.out
      clear hr5
      go_wp2_with fail
      have ko : OnlyAt [rb] wr ((wr.setCell ⟨rb, 0, none⟩ (.slice ha hd1.length hc)).setCell ⟨rb, 1, none⟩ (.slice ba hd2.length bc)) := (OnlyAt.setCell _ _ _ _).same (OnlyAt.setCell _ _ _ _)
      exact bodyPost_ret (v := .tuple #[.agg #[.slice ha hd1.length hc, .slice ba hd2.length bc], ov]) (by simp [results, Try.results17, go_sem, k0, k1]) rfl (HRQ.out wr _ ov l HD.out.2.1 ko (HL.out.only ko (fun b hb hm => by have := HL.out.lo b hb; simp at hm; omega)).ints (by omega))

theorem atomRow13 {w : World} {B : Nat} (h : w.heap[B]? = some (.cells #[.int .i64 0, .slice none 0 0] 37 (0, 0))) : w.cell? ⟨B, 0, none⟩ = some (.int .i64 0) ∧ w.cell? ⟨B, 1, none⟩ = some (.slice none 0 0) ∧ w.frozen? ⟨B, 0, none⟩ = false ∧ w.frozen? ⟨B, 1, none⟩ = false :=
  ⟨by rw [cell_of_row _ B 0 _ _ _ h]; rfl, by rw [cell_of_row _ B 1 _ _ _ h]; rfl, frozen_of_row _ B 0 _ _ h, frozen_of_row _ B 1 _ _ h⟩

set_option maxRecDepth 100000 in
set_option maxHeartbeats 8000000 in
theorem drawLessAtom_any (w : World) (S : Value) (len : Nat) (h : Arg w S len) :
    Calls Try.prog 18 #[S] w (DrewAA w) := by
  have hnw := Lib.hid (fun w h => l1New_any w S len h)
  have han := Lib.hid (fun w cb h => l3AnyAtom_any w S len cb h)
  obtain ⟨wA, hwA⟩ : ∃ wA, wA = (w.alloc (.cells #[.int .i64 0, .slice none 0 0] 37)).alloc (.cells #[.int .i64 0, .slice none 0 0] 37) := ⟨_, rfl⟩
  have HBA : Hid (Below w.heap.size w wA) := by rw [hwA]; exact Lib.hid (((Below.refl _ _).alloc (Nat.le_refl _) _).alloc (by simp) _)
  have HA := Lib.hid (h.below HBA.out)
  have HR0 : Hid (wA.heap[w.heap.size]? = some (.cells #[.int .i64 0, .slice none 0 0] 37 (0, 0))) := by
    unfold Hid; rw [hwA, (below_alloc _ _).block _ (by simp)]; exact heap_alloc_new w _
  have HR1 : Hid (wA.heap[w.heap.size + 1]? = some (.cells #[.int .i64 0, .slice none 0 0] 37 (0, 0))) := by
    unfold Hid; rw [hwA]
    have := heap_alloc_new (w.alloc (.cells #[.int .i64 0, .slice none 0 0] 37)) (.cells #[.int .i64 0, .slice none 0 0] 37); simpa using this
  have hsA : wA.heap.size = w.heap.size + 2 := by rw [hwA]; simp
  clear h
  go_enter Try.func18, Try.ntmps18
  go_wp2_with fail
  rw [← hwA]
  obtain ⟨r1, hr1⟩ : ∃ x, x = w.heap.size := ⟨_, rfl⟩
  obtain ⟨r2, hr2⟩ : ∃ x, x = w.heap.size + 1 := ⟨_, rfl⟩
  rw [← hr2] at HR1
  rw [← hr1] at HR0
  simp only [← hr2]
  simp only [← hr1]
  have hlo1 : w.heap.size ≤ r1 := by omega
  have hlo2 : w.heap.size ≤ r2 := by omega
  have hhi1 : r1 < wA.heap.size := by omega
  have hhi2 : r2 < wA.heap.size := by omega
  have hne : r1 ≠ r2 := by omega
  clear hr1 hr2 hwA hsA
  refine (hnw.out _ HA.out).mono ?_
  rintro e w1 ⟨cb, hcb, rfl, hst, hb1⟩
  have HST := Lib.hid hst
  have HB1 := Lib.hid (bnext HBA.out hb1)
  have HB01 := Lib.hid hb1
  have hs1 := hb1.size
  have hcb1 := hst.cb_lt
  clear hst hb1
  go_wp2_with fail
  refine (han.out w1 cb HST.out).mono ?_
  rintro e w2 ⟨r, xv, l, rfl, hri, hox, hl1, hl4, hd⟩
  obtain ⟨xa, xc, rfl⟩ := hox.shape
  obtain ⟨xn, hxn⟩ : ∃ n, l.length = n := ⟨_, rfl⟩
  have HXN := Lib.hid hxn
  have hl4' := hl4
  rw [hxn] at hox ⊢
  have hs2 := hd.size
  have HB2 := Lib.hid (DSt.belowN HB1.out hd (by omega))
  obtain ⟨w3, hw3⟩ : ∃ w3, w3 = w2.alloc (.cells #[.int .i64 r, .slice xa xn xc] 37) := ⟨_, rfl⟩
  have hbb : Below w2.heap.size w2 w3 := by rw [hw3]; exact below_alloc _ _
  have hs3 := hbb.size
  obtain ⟨f5, hf5⟩ : ∃ r, r = w2.heap.size := ⟨_, rfl⟩
  have c2 : w3.cell? ⟨f5, 0, none⟩ = some (.int .i64 r) := by rw [hw3, hf5]; simp
  have c3 : w3.cell? ⟨f5, 1, none⟩ = some (.slice xa xn xc) := by rw [hw3, hf5]; simp
  have HD3 := Lib.hid (((DSt.start HST.out).trans hd).below hbb)
  have HOX := Lib.hid (hox.below hbb)
  have h1r : w3.heap[r1]? = some (.cells #[.int .i64 0, .slice none 0 0] 37 (0, 0)) := by rw [hbb.block r1 (by omega), hd.2.1.block r1 (by omega) (by simp; omega), HB01.out.block r1 hhi1]; exact HR0.out
  have h2r : w3.heap[r2]? = some (.cells #[.int .i64 0, .slice none 0 0] 37 (0, 0)) := by rw [hbb.block r2 (by omega), hd.2.1.block r2 (by omega) (by simp; omega), HB01.out.block r2 hhi2]; exact HR1.out
  have H1R := Lib.hid h1r
  have H2R := Lib.hid h2r
  have HB3 := Lib.hid (bnext HB2.out hbb)
  have hn1 : r1 ≠ cb := by omega
  have hn2 : r2 ≠ cb := by omega
  have hn3 : f5 ≠ cb := by omega
  have hq1 : f5 ≠ r1 := by omega
  have hq2 : f5 ≠ r2 := by omega
  have HRI := Lib.hid hri
  have HLO : Hid (∀ b ∈ blk (.slice xa xn xc), w1.heap.size ≤ b) := fun b hb => (HOX.out.lo b hb).1
  have HW3 := Lib.hid hw3
  have HF5 := Lib.hid hf5
  have hk1 : r1 < w1.heap.size := by omega
  have hk2 : r2 < w1.heap.size := by omega
  clear hox hd hbb h1r h2r hw3 hf5 hri hxn
  go_upto_region 3 with fail
  rw [← HW3.out, ← HF5.out]
  clear HW3 HF5
  go_wp2_with fail
  go_region_law (first
    | (go_simp; go_at_call 52; refine (han.out _ cb (HD3.out.below (Below.refl _ _).drew).st).mono ?_; rintro e2 w5 ⟨ry, yv, ly, rfl, hry, hoy, hly1, hly4, hd5⟩; obtain ⟨ya, yc, rfl⟩ := hoy.shape; have q2 := hd5.cell hn3 (cellk (Below.refl w3.heap.size w3).drew c2); have q3 := hd5.cell hn3 (cellk (Below.refl w3.heap.size w3).drew c3); have hr5 : w5.heap[r1]? = some (.cells #[.int .i64 0, .slice none 0 0] 37 (0, 0)) := ((hd5.2.1.block r1 (by have := heap_lt H1R.out; simpa using this) (by simpa using hn1)).trans (((Below.refl w3.heap.size w3).drew).block r1 (heap_lt H1R.out))).trans H1R.out; have hr6 : w5.heap[r2]? = some (.cells #[.int .i64 0, .slice none 0 0] 37 (0, 0)) := ((hd5.2.1.block r2 (by have := heap_lt H2R.out; simpa using this) (by simpa using hn2)).trans (((Below.refl w3.heap.size w3).drew).block r2 (heap_lt H2R.out))).trans H2R.out; obtain ⟨k0, k1, f0, f1⟩ := atomRow13 hr5; obtain ⟨k2, k3, f2, f3⟩ := atomRow13 hr6; have HK5 := Lib.hid ((OnlyAt.ofBelow [cb] (Below.refl w3.heap.size w3).drew).same hd5.2.1); have HOY := Lib.hid hoy; have HRY := Lib.hid hry; have HLY := Lib.hid hly4; clear hr5 hr6 hd5 hoy hry))
  all_goals (go_wp2_with fail)
  all_goals
    have ko : OnlyAt [r1, r2] w5 ((((w5.setCell ⟨r1, 0, none⟩ (.int .i64 r)).setCell ⟨r1, 1, none⟩ (.slice xa xn xc)).setCell ⟨r2, 0, none⟩ (.int .i64 ry)).setCell ⟨r2, 1, none⟩ (.slice ya ly.length yc)) := ((((OnlyAt.setCell _ _ _ _).wider (by simp)).same ((OnlyAt.setCell _ _ _ _).wider (by simp))).same ((OnlyAt.setCell _ _ _ _).wider (by simp))).same ((OnlyAt.setCell _ _ _ _).wider (by simp))
    have hx5 := HOX.out.only HK5.out (fun b hb hm => by have := HLO.out b hb; simp at hm; omega)
    have e1 := (hx5.only ko (fun b hb hm => by have := HLO.out b hb; simp at hm; omega)).ints
    have e2 := (HOY.out.only ko (fun b hb hm => by have := (HOY.out.lo b hb).1; simp at this hm; omega)).ints
    have e3 := OnlyAt.below (OnlyAt.below HB3.out HK5.out (fun b hb => by simp at hb; omega)) ko (fun b hb => by simp at hb; omega)
    refine bodyPost_ret (v := .tuple #[.agg #[.int .i64 r, .slice xa xn xc], .agg #[.int .i64 ry, .slice ya ly.length yc]]) (by simp [results, Try.results18, go_sem, k0, k1, k2, k3, hne, hne.symm]) rfl ⟨_, _, (r, l), (ry, ly), rfl, ⟨_, _, _, rfl, HRI.out, e1⟩, ⟨_, _, _, rfl, HRY.out, e2⟩, hl4', HLY.out, e3⟩

set_option maxRecDepth 100000 in
set_option maxHeartbeats 8000000 in
theorem drawIsAtom_any (w : World) (S : Value) (len : Nat) (h : Arg w S len) :
    Calls Try.prog 19 #[S] w (DrewSA w) := by
  have hnw := Lib.hid (fun w h => l1New_any w S len h)
  have han := Lib.hid (fun w cb h => l3AnyAtom_any w S len cb h)
  have hat := Lib.hid (fun w cb base sv s h hv hc hs => l3Atom_any w S len cb base sv s h hv hc hs)
  have hsa := Lib.hid (fun w cb h => l3Any_any w S len cb h)
  have hon := Lib.hid (fun cb n w h h0 h1 => l1Once_any n w S len cb h h0 h1)
  have hsc := Lib.hid (fun w v l h => sIsSchema_any w v l h)
  obtain ⟨wA, hwA⟩ : ∃ wA, wA = (w.alloc (.cells #[.slice none 0 0] 41)).alloc (.cells #[.int .i64 0, .slice none 0 0] 37) := ⟨_, rfl⟩
  have HBA : Hid (Below w.heap.size w wA) := by rw [hwA]; exact Lib.hid (((Below.refl _ _).alloc (Nat.le_refl _) _).alloc (by simp) _)
  have HA := Lib.hid (h.below HBA.out)
  have HR0 : Hid (wA.heap[w.heap.size]? = some (.cells #[.slice none 0 0] 41 (0, 0))) := by
    unfold Hid; rw [hwA, (below_alloc _ _).block _ (by simp)]; exact heap_alloc_new w _
  have HR1 : Hid (wA.heap[w.heap.size + 1]? = some (.cells #[.int .i64 0, .slice none 0 0] 37 (0, 0))) := by
    unfold Hid; rw [hwA]
    have := heap_alloc_new (w.alloc (.cells #[.slice none 0 0] 41)) (.cells #[.int .i64 0, .slice none 0 0] 37); simpa using this
  have hsA : wA.heap.size = w.heap.size + 2 := by rw [hwA]; simp
  clear h
  go_enter Try.func19, Try.ntmps19
  go_wp2_with fail
  rw [← hwA]
  obtain ⟨r1, hr1⟩ : ∃ x, x = w.heap.size := ⟨_, rfl⟩
  obtain ⟨r2, hr2⟩ : ∃ x, x = w.heap.size + 1 := ⟨_, rfl⟩
  rw [← hr2] at HR1
  rw [← hr1] at HR0
  simp only [← hr2]
  simp only [← hr1]
  have hlo1 : w.heap.size ≤ r1 := by omega
  have hlo2 : w.heap.size ≤ r2 := by omega
  have hhi1 : r1 < wA.heap.size := by omega
  have hhi2 : r2 < wA.heap.size := by omega
  have hne : r1 ≠ r2 := by omega
  clear hr1 hr2 hwA hsA
  refine (hnw.out _ HA.out).mono ?_
  rintro e w1 ⟨cb, hcb, rfl, hst, hb1⟩
  have HST := Lib.hid hst
  have HB1 := Lib.hid (bnext HBA.out hb1)
  have HB01 := Lib.hid hb1
  have hs1 := hb1.size
  have hcb1 := hst.cb_lt
  clear hst hb1
  go_wp2_with fail
  refine (hsa.out w1 cb HST.out).mono ?_
  rintro e w2 hsaR
  obtain ⟨xv, l, rfl, hox, hl0, hl5, hd⟩ := hsaR
  have hl5' : l.length ≤ 5 := by omega
  obtain ⟨xa, xc, rfl⟩ := hox.shape
  obtain ⟨xn, hxn⟩ : ∃ n, l.length = n := ⟨_, rfl⟩
  have HXN := Lib.hid hxn
  rw [hxn] at hox ⊢
  have hs2 := hd.size
  have HB2 := Lib.hid (DSt.belowN HB1.out hd (by omega))
  obtain ⟨w3, hw3⟩ : ∃ w3, w3 = w2.alloc (.cells #[.slice xa xn xc] 41) := ⟨_, rfl⟩
  have hbb : Below w2.heap.size w2 w3 := by rw [hw3]; exact below_alloc _ _
  have hs3 := hbb.size
  obtain ⟨f5, hf5⟩ : ∃ r, r = w2.heap.size := ⟨_, rfl⟩
  have c2 : w3.cell? ⟨f5, 0, none⟩ = some (.slice xa xn xc) := by rw [hw3, hf5]; simp
  have HD3 := Lib.hid (((DSt.start HST.out).trans hd).below hbb)
  have HOX := Lib.hid (hox.below hbb)
  have h1r : w3.heap[r1]? = some (.cells #[.slice none 0 0] 41 (0, 0)) := by rw [hbb.block r1 (by omega), hd.2.1.block r1 (by omega) (by simp; omega), HB01.out.block r1 hhi1]; exact HR0.out
  have h2r : w3.heap[r2]? = some (.cells #[.int .i64 0, .slice none 0 0] 37 (0, 0)) := by rw [hbb.block r2 (by omega), hd.2.1.block r2 (by omega) (by simp; omega), HB01.out.block r2 hhi2]; exact HR1.out
  have H1R := Lib.hid h1r
  have H2R := Lib.hid h2r
  have HB3 := Lib.hid (bnext HB2.out hbb)
  have hn1 : r1 ≠ cb := by omega
  have hn2 : r2 ≠ cb := by omega
  have hn3 : f5 ≠ cb := by omega
  have hq1 : f5 ≠ r1 := by omega
  have hq2 : f5 ≠ r2 := by omega
  have HLO : Hid (∀ b ∈ blk (.slice xa xn xc), w1.heap.size ≤ b) := fun b hb => (HOX.out.lo b hb).1
  have HW3 := Lib.hid hw3
  have HF5 := Lib.hid hf5
  have hk1 : r1 < w1.heap.size := by omega
  have hk2 : r2 < w1.heap.size := by omega
  have HSB : Hid (isSchemaB l = true → SBd l) := fun h => by
    unfold isSchemaB at h
    rw [Bool.and_eq_true, List.all_eq_true] at h
    have h2 := of_decide_eq_true h.2
    exact ⟨by omega, by omega, fun x hx => of_decide_eq_true (h.1 x hx)⟩
  obtain ⟨sb, hsb⟩ : ∃ b, isSchemaB l = b := ⟨_, rfl⟩
  have HSC := Lib.hid (hsc.out w3 _ l HOX.out.ints)
  rw [hsb] at HSC HSB
  clear hox hd hbb h1r h2r hw3 hf5 hxn hsc hsb
  go_upto_region 3 with fail
  rw [← HW3.out, ← HF5.out]
  clear HW3 HF5
  go_wp2_with fail
  refine HSC.out.mono ?_
  rintro e w4 ⟨rfl, hb4⟩
  have hs4 := hb4.size
  have HDP := Lib.hid (HD3.out.below hb4)
  have HOP := Lib.hid (HOX.out.below hb4)
  have HBP := Lib.hid (bnext HB3.out hb4)
  have H1P : Hid (w4.heap[r1]? = some (.cells #[.slice none 0 0] 41 (0, 0))) := (hb4.block r1 (heap_lt H1R.out)).trans H1R.out
  have H2P : Hid (w4.heap[r2]? = some (.cells #[.int .i64 0, .slice none 0 0] 37 (0, 0))) := (hb4.block r2 (heap_lt H2R.out)).trans H2R.out
  replace c2 := cellk hb4 c2
  clear hb4 HSC HD3 HOX HB3 H1R H2R
  cases sb with
  | false =>
    go_wp2_with fail
    go_region_law (first
    | (go_simp; go_at_call 52; refine (han.out _ cb (HDP.out.below (Below.refl _ _).drew).st).mono ?_; rintro e2 w5 ⟨ry, yv, ly, rfl, hry, hoy, hly1, hly4, hd5⟩; obtain ⟨ya, yc, rfl⟩ := hoy.shape; have q2 := hd5.cell hn3 (cellk (Below.refl w4.heap.size w4).drew c2); have hr5 : w5.heap[r1]? = some (.cells #[.slice none 0 0] 41 (0, 0)) := ((hd5.2.1.block r1 (by have := heap_lt H1P.out; simpa using this) (by simpa using hn1)).trans (((Below.refl w4.heap.size w4).drew).block r1 (heap_lt H1P.out))).trans H1P.out; have hr6 : w5.heap[r2]? = some (.cells #[.int .i64 0, .slice none 0 0] 37 (0, 0)) := ((hd5.2.1.block r2 (by have := heap_lt H2P.out; simpa using this) (by simpa using hn2)).trans (((Below.refl w4.heap.size w4).drew).block r2 (heap_lt H2P.out))).trans H2P.out; have k0 : w5.cell? ⟨r1, 0, none⟩ = some (.slice none 0 0) := by { rw [cell_of_row _ r1 0 _ _ _ hr5]; rfl }; have f0 := frozen_of_row _ r1 0 _ _ hr5; obtain ⟨k2, k3, f2, f3⟩ := atomRow13 hr6; have HK5 := Lib.hid ((OnlyAt.ofBelow [cb] (Below.refl w4.heap.size w4).drew).same hd5.2.1); have HOY := Lib.hid hoy; have HRY := Lib.hid hry; have HLY : Hid (ly.length ≤ 4) := by { show ly.length ≤ 4; omega }; clear hr5 hr6 hd5 hoy hry))
    all_goals (go_wp2_with fail)
    all_goals
      have ko : OnlyAt [r1, r2] w5 (((w5.setCell ⟨r1, 0, none⟩ (.slice xa xn xc)).setCell ⟨r2, 0, none⟩ (.int .i64 ry)).setCell ⟨r2, 1, none⟩ (.slice ya ly.length yc)) := (((OnlyAt.setCell _ _ _ _).wider (by simp)).same ((OnlyAt.setCell _ _ _ _).wider (by simp))).same ((OnlyAt.setCell _ _ _ _).wider (by simp))
      have hx5 := HOP.out.only HK5.out (fun b hb hm => by have := HLO.out b hb; simp at hm; omega)
      have e1 := (hx5.only ko (fun b hb hm => by have := HLO.out b hb; simp at hm; omega)).ints
      have e2 := (HOY.out.only ko (fun b hb hm => by have := (HOY.out.lo b hb).1; simp at this hm; omega)).ints
      have e3 := OnlyAt.below (OnlyAt.below HBP.out HK5.out (fun b hb => by simp at hb; omega)) ko (fun b hb => by simp at hb; omega)
      refine bodyPost_ret (v := .tuple #[.agg #[.slice xa xn xc], .agg #[.int .i64 ry, .slice ya ly.length yc]]) (by simp [results, Try.results19, go_sem, k0, k2, k3, hne, hne.symm]) rfl ⟨_, l, _, (ry, ly), rfl, ⟨_, _, _, rfl, e1⟩, hl5', ⟨_, _, _, rfl, HRY.out, e2⟩, HLY.out, e3⟩

  | true =>
    have hbd := HSB.out rfl
    have HBD := Lib.hid hbd
    clear hbd
    go_wp2_with fail
    refine (hon.out cb 4 w4 HDP.out.st (by omega) (by omega)).mono ?_
    rintro e w6 ⟨bo, rfl, hcur, hg⟩
    have hd6 := (DSt.start HDP.out.st).draw hcur hg
    have hs6 := hd6.size
    replace c2 := hd6.cell hn3 c2
    have HDQ := Lib.hid (HDP.out.draw hcur hg)
    have HOQ := Lib.hid (HOP.out.only hd6.2.1 (fun b hb hm => by have := HLO.out b hb; simp at hm; omega))
    have HBQ := Lib.hid (OnlyAt.below HBP.out hd6.2.1 (fun b hb => by simp at hb; omega))
    have H1Q : Hid (w6.heap[r1]? = some (.cells #[.slice none 0 0] 41 (0, 0))) := (hd6.2.1.block r1 (heap_lt H1P.out) (by simpa using hn1)).trans H1P.out
    have H2Q : Hid (w6.heap[r2]? = some (.cells #[.int .i64 0, .slice none 0 0] 37 (0, 0))) := (hd6.2.1.block r2 (heap_lt H2P.out) (by simpa using hn2)).trans H2P.out
    clear hcur hg hd6 HDP HOP HBP H1P H2P
    have HDP := HDQ
    have HOP := HOQ
    have HBP := HBQ
    have H1P := H1Q
    have H2P := H2Q
    clear HDQ HOQ HBQ H1Q H2Q
    cases bo with
    | true =>
      go_wp2_with fail
      go_region_law (first
    | (go_simp; go_at_call 52; refine (han.out _ cb (HDP.out.below (Below.refl _ _).drew).st).mono ?_; rintro e2 w5 ⟨ry, yv, ly, rfl, hry, hoy, hly1, hly4, hd5⟩; obtain ⟨ya, yc, rfl⟩ := hoy.shape; have q2 := hd5.cell hn3 (cellk (Below.refl w6.heap.size w6).drew c2); have hr5 : w5.heap[r1]? = some (.cells #[.slice none 0 0] 41 (0, 0)) := ((hd5.2.1.block r1 (by have := heap_lt H1P.out; simpa using this) (by simpa using hn1)).trans (((Below.refl w6.heap.size w6).drew).block r1 (heap_lt H1P.out))).trans H1P.out; have hr6 : w5.heap[r2]? = some (.cells #[.int .i64 0, .slice none 0 0] 37 (0, 0)) := ((hd5.2.1.block r2 (by have := heap_lt H2P.out; simpa using this) (by simpa using hn2)).trans (((Below.refl w6.heap.size w6).drew).block r2 (heap_lt H2P.out))).trans H2P.out; have k0 : w5.cell? ⟨r1, 0, none⟩ = some (.slice none 0 0) := by { rw [cell_of_row _ r1 0 _ _ _ hr5]; rfl }; have f0 := frozen_of_row _ r1 0 _ _ hr5; obtain ⟨k2, k3, f2, f3⟩ := atomRow13 hr6; have HK5 := Lib.hid ((OnlyAt.ofBelow [cb] (Below.refl w6.heap.size w6).drew).same hd5.2.1); have HOY := Lib.hid hoy; have HRY := Lib.hid hry; have HLY : Hid (ly.length ≤ 4) := by { show ly.length ≤ 4; omega }; clear hr5 hr6 hd5 hoy hry))
      all_goals (go_wp2_with fail)
      all_goals
        have ko : OnlyAt [r1, r2] w5 (((w5.setCell ⟨r1, 0, none⟩ (.slice xa xn xc)).setCell ⟨r2, 0, none⟩ (.int .i64 ry)).setCell ⟨r2, 1, none⟩ (.slice ya ly.length yc)) := (((OnlyAt.setCell _ _ _ _).wider (by simp)).same ((OnlyAt.setCell _ _ _ _).wider (by simp))).same ((OnlyAt.setCell _ _ _ _).wider (by simp))
        have hx5 := HOP.out.only HK5.out (fun b hb hm => by have := HLO.out b hb; simp at hm; omega)
        have e1 := (hx5.only ko (fun b hb hm => by have := HLO.out b hb; simp at hm; omega)).ints
        have e2 := (HOY.out.only ko (fun b hb hm => by have := (HOY.out.lo b hb).1; simp at this hm; omega)).ints
        have e3 := OnlyAt.below (OnlyAt.below HBP.out HK5.out (fun b hb => by simp at hb; omega)) ko (fun b hb => by simp at hb; omega)
        refine bodyPost_ret (v := .tuple #[.agg #[.slice xa xn xc], .agg #[.int .i64 ry, .slice ya ly.length yc]]) (by simp [results, Try.results19, go_sem, k0, k2, k3, hne, hne.symm]) rfl ⟨_, l, _, (ry, ly), rfl, ⟨_, _, _, rfl, e1⟩, hl5', ⟨_, _, _, rfl, HRY.out, e2⟩, HLY.out, e3⟩

    | false =>
      go_wp2_with fail
      go_region_law (first
    | (go_simp; go_at_call 55; refine (hat.out _ cb w1.heap.size _ l (HDP.out.below (Below.refl _ _).drew).st (HOP.out.below (Below.refl _ _).drew) hcb1 HBD.out).mono ?_; rintro e2 w5 ⟨ry, yv, ly, rfl, hry, hoy, hly1, hly4, hd5⟩; obtain ⟨ya, yc, rfl⟩ := hoy.shape; have q2 := hd5.cell hn3 (cellk (Below.refl w6.heap.size w6).drew c2); have hr5 : w5.heap[r1]? = some (.cells #[.slice none 0 0] 41 (0, 0)) := ((hd5.2.1.block r1 (by have := heap_lt H1P.out; simpa using this) (by simpa using hn1)).trans (((Below.refl w6.heap.size w6).drew).block r1 (heap_lt H1P.out))).trans H1P.out; have hr6 : w5.heap[r2]? = some (.cells #[.int .i64 0, .slice none 0 0] 37 (0, 0)) := ((hd5.2.1.block r2 (by have := heap_lt H2P.out; simpa using this) (by simpa using hn2)).trans (((Below.refl w6.heap.size w6).drew).block r2 (heap_lt H2P.out))).trans H2P.out; have k0 : w5.cell? ⟨r1, 0, none⟩ = some (.slice none 0 0) := by { rw [cell_of_row _ r1 0 _ _ _ hr5]; rfl }; have f0 := frozen_of_row _ r1 0 _ _ hr5; obtain ⟨k2, k3, f2, f3⟩ := atomRow13 hr6; have HK5 := Lib.hid ((OnlyAt.ofBelow [cb] (Below.refl w6.heap.size w6).drew).same hd5.2.1); have HOY := Lib.hid hoy; have HRY := Lib.hid hry; have HLY : Hid (ly.length ≤ 4) := by { show ly.length ≤ 4; omega }; clear hr5 hr6 hd5 hoy hry))
      all_goals (go_wp2_with fail)
      all_goals
        have ko : OnlyAt [r1, r2] w5 (((w5.setCell ⟨r1, 0, none⟩ (.slice xa xn xc)).setCell ⟨r2, 0, none⟩ (.int .i64 ry)).setCell ⟨r2, 1, none⟩ (.slice ya ly.length yc)) := (((OnlyAt.setCell _ _ _ _).wider (by simp)).same ((OnlyAt.setCell _ _ _ _).wider (by simp))).same ((OnlyAt.setCell _ _ _ _).wider (by simp))
        have hx5 := HOP.out.only HK5.out (fun b hb hm => by have := HLO.out b hb; simp at hm; omega)
        have e1 := (hx5.only ko (fun b hb hm => by have := HLO.out b hb; simp at hm; omega)).ints
        have e2 := (HOY.out.only ko (fun b hb hm => by have := (HOY.out.lo b hb).1; simp at this hm; omega)).ints
        have e3 := OnlyAt.below (OnlyAt.below HBP.out HK5.out (fun b hb => by simp at hb; omega)) ko (fun b hb => by simp at hb; omega)
        refine bodyPost_ret (v := .tuple #[.agg #[.slice xa xn xc], .agg #[.int .i64 ry, .slice ya ly.length yc]]) (by simp [results, Try.results19, go_sem, k0, k2, k3, hne, hne.symm]) rfl ⟨_, l, _, (ry, ly), rfl, ⟨_, _, _, rfl, e1⟩, hl5', ⟨_, _, _, rfl, HRY.out, e2⟩, HLY.out, e3⟩

end Go.Proofs.Ytpedpbbiamhgdaa
