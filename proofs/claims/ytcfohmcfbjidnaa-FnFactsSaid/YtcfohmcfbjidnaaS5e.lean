/- Contracts of chapter 5's spec: AddFact, RemoveFact. -/
import Derived.Test.YtcfohmcfbjidnaaS5d
namespace Go.Proofs.Ytcfohmcfbjidnaa
open Go Go.Sort Go.RowKit
set_option linter.unusedVariables false

def addOk (s : List Int) (l : List AtomD) (f : AtomD) : Bool := isDbB s l && (isFactB s f.1 f.2 && (!decide (f ∈ l) && decide (l.length < 24)))
def addRes (s : List Int) (l : List AtomD) (f : AtomD) : List AtomD := if addOk s l f then putF l f else l
def remF (l : List AtomD) (f : AtomD) : List AtomD := l.filter (fun x => !decide (x = f))
def remOk (s : List Int) (l : List AtomD) (f : AtomD) : Bool := isDbB s l && decide (f ∈ l)
def remRes (s : List Int) (l : List AtomD) (f : AtomD) : List AtomD := if remOk s l f then remF l f else l
theorem add_no {s : List Int} {l : List AtomD} {f : AtomD} (h : addOk s l f = false) : addRes s l f = l := by unfold addRes; rw [h]; rfl
theorem add_yes {s : List Int} {l : List AtomD} {f : AtomD} (h : addOk s l f = true) : addRes s l f = putF l f := by unfold addRes; rw [h]; rfl
theorem rem_no {s : List Int} {l : List AtomD} {f : AtomD} (h : remOk s l f = false) : remRes s l f = l := by unfold remRes; rw [h]; rfl
theorem rem_yes {s : List Int} {l : List AtomD} {f : AtomD} (h : remOk s l f = true) : remRes s l f = remF l f := by unfold remRes; rw [h]; rfl
theorem mem_size {l : List AtomD} {x : AtomD} (hx : x ∈ l) (h : sizeAtomS l ≤ 1048576) : x.2.length ≤ 1048576 := by
  obtain ⟨i, hi⟩ := List.mem_iff_getElem?.1 hx
  have h5 := sumArgs_take hi
  have h6 := sumArgs_le l (i + 1)
  unfold sizeAtomS at h
  omega
theorem len_size {l : List AtomD} (h : sizeAtomS l ≤ 1048576) : l.length ≤ 1048576 := by unfold sizeAtomS at h; omega
def GaveFs (b : Bool) (l : List AtomD) (w : World) (e : Ending) (w' : World) : Prop := ∃ r0, e = .returned (.tuple #[r0, .bool b]) ∧ RdAtomS w' r0 l ∧ Below w.heap.size w w'
theorem ROAtomS.rdS {w : World} {v : Value} {l : List AtomD} {bs : List Nat} (h : ROAtomS w v l bs) : RdAtomS w v l := by
  obtain ⟨a, n, c, rfl, h⟩ := h
  exact ⟨a, n, c, rfl, ROSl.rd h (fun _ _ _ h => h.rd)⟩

set_option maxRecDepth 100000 in
set_option maxHeartbeats 4000000 in
theorem sAddFact_any (w : World) (vs v vf : Value) (s : List Int) (l : List AtomD) (f : AtomD) (hvs : RdSchema w vs s) (h : RdAtomS w v l) (hf : RdAtom w vf f) (hz : sizeAtomS l ≤ 1048576) (hzf : f.2.length ≤ 1048576) :
    Calls Try.prog 13 #[vs, v, vf] w (GaveFs (addOk s l f) (addRes s l f) w) := by
  obtain ⟨sa, sn, sc, rfl, hs⟩ := hvs
  obtain ⟨a, n, c, rfl, h⟩ := h
  obtain ⟨fa, fn, fc, rfl, hfi, hf⟩ := hf
  have hl := h.at.1
  have hn := h.at.2.1
  have hm := h.at.2.2.1
  unfold maxLen at hm
  have hb0 : ∀ o p, Below w.heap.size w ((w.alloc o).alloc p) := fun o p => ((Below.refl _ _).alloc (Nat.le_refl _) _).alloc (by simp) _
  have HB0 := Lib.hid hb0
  have HL := Lib.hid hl
  have HS : Hid (RdSchema w (.agg #[.slice sa sn sc]) s) := ⟨_, _, _, rfl, hs⟩
  have HA : Hid (RdAtomS w (.slice a n c) l) := ⟨_, _, _, rfl, h⟩
  have HF : Hid (RdAtom w (.agg #[.int .i64 f.1, .slice fa fn fc]) f) := ⟨_, _, _, rfl, hfi, hf⟩
  have HFS := Lib.hid hf
  have HSS := Lib.hid hs
  have hD := Lib.hid (fun w h h' => sIsDb_any w (.agg #[.slice sa sn sc]) (.slice a n c) s l h h')
  have hI := Lib.hid (fun w h h' => sIsFact_any w f.1 (.slice sa sn sc) (.slice fa fn fc) s f.2 h h')
  have hH := Lib.hid (fun w h h' => sHasFact_any w (.slice a n c) (.agg #[.int .i64 f.1, .slice fa fn fc]) l f h h')
  have hAll := Lib.hid (fun w h => sAll5_any w (.slice a n c) l h (fun x hx => mem_size hx hz) (len_size hz))
  have hPut := Lib.hid (fun w h h' => sPut5_any w (.slice a n c) (.agg #[.int .i64 f.1, .slice fa fn fc]) l f h h' (fun x hx => mem_size hx hz) (len_size hz) hzf)
  have HQ : ∀ q1 q2 q3 q4, isDbB s l = q1 → isFactB s f.1 f.2 = q2 → decide (f ∈ l) = q3 → decide (l.length < 24) = q4 → addOk s l f = (q1 && (q2 && (!q3 && q4))) := by
    rintro _ _ _ _ rfl rfl rfl rfl; rfl
  obtain ⟨q1, h1⟩ : ∃ q, isDbB s l = q := ⟨_, rfl⟩
  obtain ⟨q2, h2⟩ : ∃ q, isFactB s f.1 f.2 = q := ⟨_, rfl⟩
  obtain ⟨q3, h3⟩ : ∃ q, decide (f ∈ l) = q := ⟨_, rfl⟩
  obtain ⟨q4, h4⟩ : ∃ q, decide (l.length < 24) = q := ⟨_, rfl⟩
  have HOK := HQ q1 q2 q3 q4 h1 h2 h3 h4
  have hq4 : decide ((24 : Int) ≤ n) = !q4 := by
    rw [← h4, hl]
    by_cases h : n < 24
    · rw [decide_eq_true h, decide_eq_false (by omega)]; rfl
    · rw [decide_eq_false h, decide_eq_true (by omega)]; rfl
  rw [h1] at hD
  rw [h2] at hI
  rw [h3] at hH
  have HNO := @add_no s l f
  have HYES := @add_yes s l f
  generalize f.1 = fr at *
  clear h hs hf hl hb0 hz hzf h1 h2 h3 h4 HQ hfi
  have hcase : q1 = false ∨ (q1 = true ∧ q2 = false) ∨ (q1 = true ∧ q2 = true ∧ q3 = true) ∨ (q1 = true ∧ q2 = true ∧ q3 = false ∧ q4 = false) ∨ (q1 = true ∧ q2 = true ∧ q3 = false ∧ q4 = true) := by
    cases q1 <;> cases q2 <;> cases q3 <;> cases q4 <;> simp
  rcases hcase with rfl | ⟨rfl, rfl⟩ | ⟨rfl, rfl, rfl⟩ | ⟨rfl, rfl, rfl, rfl⟩ | ⟨rfl, rfl, rfl, rfl⟩
  · skip
    have HRES := Lib.hid (HNO (by rw [HOK]; rfl))
    replace HOK := Lib.hid HOK
    clear HNO HYES
    clear hq4
    go_enter Try.func13, Try.ntmps13
    go_wp2_with fail
    refine (hD.out _ (HS.out.below (HB0.out _ _)) (HA.out.below (HB0.out _ _))).mono ?_
    rintro e w1 ⟨rfl, hb⟩
    have HB1 := Lib.hid (bnext (HB0.out _ _) hb)
    have ks := cellk hb (b := w.heap.size) (o := 0) (v := .slice sa sn sc) (by simp)
    have kf0 := cellk hb (b := w.heap.size + 1) (o := 0) (v := .int .i64 fr) (by simp)
    have kf1 := cellk hb (b := w.heap.size + 1) (o := 1) (v := .slice fa fn fc) (by simp)
    clear hb
    go_wp2_with fail
    refine (hAll.out _ (HA.out.below HB1.out)).mono ?_
    rintro e w9 ⟨v9, bs9, rfl, hro, hfr, hb⟩
    have HB9 := Lib.hid (bnext HB1.out hb)
    have HRO := Lib.hid hro.rdS
    clear hb hro hfr ks kf0 kf1
    go_wp2_with fail
    go_ret2
    exact ⟨v9, by rw [HOK.out]; rfl, by rw [HRES.out]; exact HRO.out, HB9.out⟩
  · skip
    have HRES := Lib.hid (HNO (by rw [HOK]; rfl))
    replace HOK := Lib.hid HOK
    clear HNO HYES
    clear hq4
    go_enter Try.func13, Try.ntmps13
    go_wp2_with fail
    refine (hD.out _ (HS.out.below (HB0.out _ _)) (HA.out.below (HB0.out _ _))).mono ?_
    rintro e w1 ⟨rfl, hb⟩
    have HB1 := Lib.hid (bnext (HB0.out _ _) hb)
    have ks := cellk hb (b := w.heap.size) (o := 0) (v := .slice sa sn sc) (by simp)
    have kf0 := cellk hb (b := w.heap.size + 1) (o := 0) (v := .int .i64 fr) (by simp)
    have kf1 := cellk hb (b := w.heap.size + 1) (o := 1) (v := .slice fa fn fc) (by simp)
    clear hb
    go_wp2_with fail
    refine (hI.out _ (HSS.out.below HB1.out) (HFS.out.below HB1.out)).mono ?_
    rintro e w2 ⟨rfl, hb⟩
    have HB2 := Lib.hid (bnext HB1.out hb)
    have ks := cellk hb ks
    have kf0 := cellk hb kf0
    have kf1 := cellk hb kf1
    clear hb
    go_wp2_with fail
    refine (hAll.out _ (HA.out.below HB2.out)).mono ?_
    rintro e w9 ⟨v9, bs9, rfl, hro, hfr, hb⟩
    have HB9 := Lib.hid (bnext HB2.out hb)
    have HRO := Lib.hid hro.rdS
    clear hb hro hfr ks kf0 kf1
    go_wp2_with fail
    go_ret2
    exact ⟨v9, by rw [HOK.out]; rfl, by rw [HRES.out]; exact HRO.out, HB9.out⟩
  · skip
    have HRES := Lib.hid (HNO (by rw [HOK]; rfl))
    replace HOK := Lib.hid HOK
    clear HNO HYES
    clear hq4
    go_enter Try.func13, Try.ntmps13
    go_wp2_with fail
    refine (hD.out _ (HS.out.below (HB0.out _ _)) (HA.out.below (HB0.out _ _))).mono ?_
    rintro e w1 ⟨rfl, hb⟩
    have HB1 := Lib.hid (bnext (HB0.out _ _) hb)
    have ks := cellk hb (b := w.heap.size) (o := 0) (v := .slice sa sn sc) (by simp)
    have kf0 := cellk hb (b := w.heap.size + 1) (o := 0) (v := .int .i64 fr) (by simp)
    have kf1 := cellk hb (b := w.heap.size + 1) (o := 1) (v := .slice fa fn fc) (by simp)
    clear hb
    go_wp2_with fail
    refine (hI.out _ (HSS.out.below HB1.out) (HFS.out.below HB1.out)).mono ?_
    rintro e w2 ⟨rfl, hb⟩
    have HB2 := Lib.hid (bnext HB1.out hb)
    have ks := cellk hb ks
    have kf0 := cellk hb kf0
    have kf1 := cellk hb kf1
    clear hb
    go_wp2_with fail
    refine (hH.out _ (HA.out.below HB2.out) (HF.out.below HB2.out)).mono ?_
    rintro e w3 ⟨rfl, hb⟩
    have HB3 := Lib.hid (bnext HB2.out hb)
    have ks := cellk hb ks
    have kf0 := cellk hb kf0
    have kf1 := cellk hb kf1
    clear hb
    go_wp2_with fail
    refine (hAll.out _ (HA.out.below HB3.out)).mono ?_
    rintro e w9 ⟨v9, bs9, rfl, hro, hfr, hb⟩
    have HB9 := Lib.hid (bnext HB3.out hb)
    have HRO := Lib.hid hro.rdS
    clear hb hro hfr ks kf0 kf1
    go_wp2_with fail
    go_ret2
    exact ⟨v9, by rw [HOK.out]; rfl, by rw [HRES.out]; exact HRO.out, HB9.out⟩
  · skip
    have HRES := Lib.hid (HNO (by rw [HOK]; rfl))
    replace HOK := Lib.hid HOK
    clear HNO HYES
    have hq4 : decide ((24 : Int) ≤ n) = true := hq4
    go_enter Try.func13, Try.ntmps13
    go_wp2_with fail
    refine (hD.out _ (HS.out.below (HB0.out _ _)) (HA.out.below (HB0.out _ _))).mono ?_
    rintro e w1 ⟨rfl, hb⟩
    have HB1 := Lib.hid (bnext (HB0.out _ _) hb)
    have ks := cellk hb (b := w.heap.size) (o := 0) (v := .slice sa sn sc) (by simp)
    have kf0 := cellk hb (b := w.heap.size + 1) (o := 0) (v := .int .i64 fr) (by simp)
    have kf1 := cellk hb (b := w.heap.size + 1) (o := 1) (v := .slice fa fn fc) (by simp)
    clear hb
    go_wp2_with fail
    refine (hI.out _ (HSS.out.below HB1.out) (HFS.out.below HB1.out)).mono ?_
    rintro e w2 ⟨rfl, hb⟩
    have HB2 := Lib.hid (bnext HB1.out hb)
    have ks := cellk hb ks
    have kf0 := cellk hb kf0
    have kf1 := cellk hb kf1
    clear hb
    go_wp2_with fail
    refine (hH.out _ (HA.out.below HB2.out) (HF.out.below HB2.out)).mono ?_
    rintro e w3 ⟨rfl, hb⟩
    have HB3 := Lib.hid (bnext HB2.out hb)
    have ks := cellk hb ks
    have kf0 := cellk hb kf0
    have kf1 := cellk hb kf1
    clear hb
    go_wp2_with fail
    refine (hAll.out _ (HA.out.below HB3.out)).mono ?_
    rintro e w9 ⟨v9, bs9, rfl, hro, hfr, hb⟩
    have HB9 := Lib.hid (bnext HB3.out hb)
    have HRO := Lib.hid hro.rdS
    clear hb hro hfr ks kf0 kf1
    go_wp2_with fail
    go_ret2
    exact ⟨v9, by rw [HOK.out]; rfl, by rw [HRES.out]; exact HRO.out, HB9.out⟩
  · skip
    have HRES := Lib.hid (HYES (by rw [HOK]; rfl))
    replace HOK := Lib.hid HOK
    clear HNO HYES
    have hq4 : decide ((24 : Int) ≤ n) = false := hq4
    go_enter Try.func13, Try.ntmps13
    go_wp2_with fail
    refine (hD.out _ (HS.out.below (HB0.out _ _)) (HA.out.below (HB0.out _ _))).mono ?_
    rintro e w1 ⟨rfl, hb⟩
    have HB1 := Lib.hid (bnext (HB0.out _ _) hb)
    have ks := cellk hb (b := w.heap.size) (o := 0) (v := .slice sa sn sc) (by simp)
    have kf0 := cellk hb (b := w.heap.size + 1) (o := 0) (v := .int .i64 fr) (by simp)
    have kf1 := cellk hb (b := w.heap.size + 1) (o := 1) (v := .slice fa fn fc) (by simp)
    clear hb
    go_wp2_with fail
    refine (hI.out _ (HSS.out.below HB1.out) (HFS.out.below HB1.out)).mono ?_
    rintro e w2 ⟨rfl, hb⟩
    have HB2 := Lib.hid (bnext HB1.out hb)
    have ks := cellk hb ks
    have kf0 := cellk hb kf0
    have kf1 := cellk hb kf1
    clear hb
    go_wp2_with fail
    refine (hH.out _ (HA.out.below HB2.out) (HF.out.below HB2.out)).mono ?_
    rintro e w3 ⟨rfl, hb⟩
    have HB3 := Lib.hid (bnext HB2.out hb)
    have ks := cellk hb ks
    have kf0 := cellk hb kf0
    have kf1 := cellk hb kf1
    clear hb
    go_wp2_with fail
    refine (hPut.out _ (HA.out.below HB3.out) (HF.out.below HB3.out)).mono ?_
    rintro e w9 ⟨v9, bs9, rfl, hro, hfr, hb⟩
    have HB9 := Lib.hid (bnext HB3.out hb)
    have HRO := Lib.hid hro.rdS
    clear hb hro hfr ks kf0 kf1
    go_wp2_with fail
    go_ret2
    exact ⟨v9, by rw [HOK.out]; rfl, by rw [HRES.out]; exact HRO.out, HB9.out⟩

theorem rem_take {l : List AtomD} {f : AtomD} {i : Nat} {e : AtomD} (h : l[i]? = some e) : remF (l.take (i + 1)) f = if e = f then remF (l.take i) f else remF (l.take i) f ++ [(e.1, e.2)] := by
  obtain ⟨hi, rfl⟩ := List.getElem?_eq_some_iff.1 h
  unfold remF
  rw [List.take_succ_eq_append_getElem hi, List.filter_append]
  by_cases he : l[i] = f
  · rw [if_pos he]; simp [he]
  · rw [if_neg he]; simp [he]
set_option maxRecDepth 100000 in
set_option maxHeartbeats 8000000 in
theorem sRemoveFact_any (w : World) (vs v vf : Value) (s : List Int) (l : List AtomD) (f : AtomD) (hvs : RdSchema w vs s) (h : RdAtomS w v l) (hf : RdAtom w vf f) (hz : sizeAtomS l ≤ 1048576) (hzf : f.2.length ≤ 1048576) :
    Calls Try.prog 21 #[vs, v, vf] w (GaveFs (remOk s l f) (remRes s l f) w) := by
  obtain ⟨sa, sn, sc, rfl, hs⟩ := hvs
  obtain ⟨a, n, c, rfl, h⟩ := h
  obtain ⟨fa, fn, fc, rfl, hfi, hf⟩ := hf
  have hl := h.at.1
  have hn := h.at.2.1
  have hm := h.at.2.2.1
  unfold maxLen at hm
  have hb0 : ∀ o p, Below w.heap.size w ((w.alloc o).alloc p) := fun o p => ((Below.refl _ _).alloc (Nat.le_refl _) _).alloc (by simp) _
  have HB0 := Lib.hid hb0
  have HL := Lib.hid hl
  have HS : Hid (RdSchema w (.agg #[.slice sa sn sc]) s) := ⟨_, _, _, rfl, hs⟩
  have HA : Hid (RdAtomS w (.slice a n c) l) := ⟨_, _, _, rfl, h⟩
  have HF : Hid (RdAtom w (.agg #[.int .i64 f.1, .slice fa fn fc]) f) := ⟨_, _, _, rfl, hfi, hf⟩
  have HFS := Lib.hid hf
  have HSS := Lib.hid hs
  have hD := Lib.hid (fun w h h' => sIsDb_any w (.agg #[.slice sa sn sc]) (.slice a n c) s l h h')
  have hI := Lib.hid (fun w h h' => sIsFact_any w f.1 (.slice sa sn sc) (.slice fa fn fc) s f.2 h h')
  have hH := Lib.hid (fun w h h' => sHasFact_any w (.slice a n c) (.agg #[.int .i64 f.1, .slice fa fn fc]) l f h h')
  have hAll := Lib.hid (fun w h => sAll5_any w (.slice a n c) l h (fun x hx => mem_size hx hz) (len_size hz))
  have hcell := h.at.2.2.2
  have HC := Lib.hid hcell
  have HZ : Hid (∀ x ∈ l, x.2.length ≤ 1048576) := fun x hx => mem_size hx hz
  have hz2 := len_size hz
  rw [hl] at hz2
  have hCp := Lib.hid (fun w v f h hz => sCopy5_any w v f h hz)
  have hSa := Lib.hid (fun w r r' v v' l l' a b => sSame5_any w r r' v v' l l' a b)
  have HFQ : Hid (∀ x : AtomD, decide (x.1 = f.1 ∧ x.2 = f.2) = decide (x = f)) := fun x => atom_ext (y := f)
  have HQ : ∀ q1 q2, isDbB s l = q1 → decide (f ∈ l) = q2 → remOk s l f = (q1 && q2) := by
    rintro _ _ rfl rfl; rfl
  obtain ⟨q1, h1⟩ : ∃ q, isDbB s l = q := ⟨_, rfl⟩
  obtain ⟨q3, h3⟩ : ∃ q, decide (f ∈ l) = q := ⟨_, rfl⟩
  have HOK := HQ q1 q3 h1 h3
  rw [h1] at hD
  rw [h3] at hH
  have HNO := @rem_no s l f
  have HYES := @rem_yes s l f
  generalize f.1 = fr at *
  generalize f.2 = fl at *
  clear h hs hf hl hb0 hz hzf h1 h3 HQ hfi hcell hI
  have hcase : q1 = false ∨ (q1 = true ∧ q3 = false) ∨ (q1 = true ∧ q3 = true) := by
    cases q1 <;> cases q3 <;> simp
  rcases hcase with rfl | ⟨rfl, rfl⟩ | ⟨rfl, rfl⟩
  · skip
    have HRES := Lib.hid (HNO (by rw [HOK]; rfl))
    replace HOK := Lib.hid HOK
    clear HNO HYES
    go_enter Try.func21, Try.ntmps21
    go_wp2_with fail
    refine (hD.out _ (HS.out.below (HB0.out _ _)) (HA.out.below (HB0.out _ _))).mono ?_
    rintro e w1 ⟨rfl, hb⟩
    have HB1 := Lib.hid (bnext (HB0.out _ _) hb)
    have ks := cellk hb (b := w.heap.size) (o := 0) (v := .slice sa sn sc) (by simp)
    have kf0 := cellk hb (b := w.heap.size + 1) (o := 0) (v := .int .i64 fr) (by simp)
    have kf1 := cellk hb (b := w.heap.size + 1) (o := 1) (v := .slice fa fn fc) (by simp)
    clear hb
    go_wp2_with fail
    refine (hAll.out _ (HA.out.below HB1.out)).mono ?_
    rintro e w9 ⟨v9, bs9, rfl, hro, hfr, hb⟩
    have HB9 := Lib.hid (bnext HB1.out hb)
    have HRO := Lib.hid hro.rdS
    clear hb hro hfr ks kf0 kf1
    go_wp2_with fail
    go_ret2
    exact ⟨v9, by rw [HOK.out]; rfl, by rw [HRES.out]; exact HRO.out, HB9.out⟩
  · skip
    have HRES := Lib.hid (HNO (by rw [HOK]; rfl))
    replace HOK := Lib.hid HOK
    clear HNO HYES
    go_enter Try.func21, Try.ntmps21
    go_wp2_with fail
    refine (hD.out _ (HS.out.below (HB0.out _ _)) (HA.out.below (HB0.out _ _))).mono ?_
    rintro e w1 ⟨rfl, hb⟩
    have HB1 := Lib.hid (bnext (HB0.out _ _) hb)
    have ks := cellk hb (b := w.heap.size) (o := 0) (v := .slice sa sn sc) (by simp)
    have kf0 := cellk hb (b := w.heap.size + 1) (o := 0) (v := .int .i64 fr) (by simp)
    have kf1 := cellk hb (b := w.heap.size + 1) (o := 1) (v := .slice fa fn fc) (by simp)
    clear hb
    go_wp2_with fail
    refine (hH.out _ (HA.out.below HB1.out) (HF.out.below HB1.out)).mono ?_
    rintro e w2 ⟨rfl, hb⟩
    have HB2 := Lib.hid (bnext HB1.out hb)
    have ks := cellk hb ks
    have kf0 := cellk hb kf0
    have kf1 := cellk hb kf1
    clear hb
    go_wp2_with fail
    refine (hAll.out _ (HA.out.below HB2.out)).mono ?_
    rintro e w9 ⟨v9, bs9, rfl, hro, hfr, hb⟩
    have HB9 := Lib.hid (bnext HB2.out hb)
    have HRO := Lib.hid hro.rdS
    clear hb hro hfr ks kf0 kf1
    go_wp2_with fail
    go_ret2
    exact ⟨v9, by rw [HOK.out]; rfl, by rw [HRES.out]; exact HRO.out, HB9.out⟩
  · skip
    have HRES := Lib.hid (HYES (by rw [HOK]; rfl))
    replace HOK := Lib.hid HOK
    clear HNO HYES
    go_enter Try.func21, Try.ntmps21
    go_wp2_with fail
    refine (hD.out _ (HS.out.below (HB0.out _ _)) (HA.out.below (HB0.out _ _))).mono ?_
    rintro e w1 ⟨rfl, hb⟩
    have HB1 := Lib.hid (bnext (HB0.out _ _) hb)
    have ks := cellk hb (b := w.heap.size) (o := 0) (v := .slice sa sn sc) (by simp)
    have kf0 := cellk hb (b := w.heap.size + 1) (o := 0) (v := .int .i64 fr) (by simp)
    have kf1 := cellk hb (b := w.heap.size + 1) (o := 1) (v := .slice fa fn fc) (by simp)
    clear hb
    go_wp2_with fail
    refine (hH.out _ (HA.out.below HB1.out) (HF.out.below HB1.out)).mono ?_
    rintro e w2 ⟨rfl, hb⟩
    have HB2 := Lib.hid (bnext HB1.out hb)
    have ks := cellk hb ks
    have kf0 := cellk hb kf0
    have kf1 := cellk hb kf1
    clear hb
    go_wp2_with fail
    have HLIT := Lib.hid (OutInv.lit 29 w2 w2 (Below.refl _ _))
    have K0 := Lib.hid kf0
    have K1 := Lib.hid kf1
    clear ks kf0 kf1
    go_loopw [8, 9] (fun ov iv wr => ∃ i : Nat, i ≤ n ∧ iv = .int .i64 i ∧ ∃ bss, Hid (OutInv 29 w2 wr ov (remF (l.take i) f) bss)) (fun _ iv _ => n - (intOf iv).toNat)
    case atStart => exact ⟨0, by omega, rfl, [], by simpa [remF] using HLIT⟩
    case round =>
      obtain ⟨i, hi, rfl, bss, HP⟩ := hrel
      obtain ⟨ov, hov⟩ : ∃ ov, ov = u8 := ⟨_, rfl⟩
      subst hov
      have hbq := HP.out.below
      by_cases hlt : i < n
      · obtain ⟨b, off, rfl, hbw, hc⟩ := HC.out (by omega)
        obtain ⟨e, hd⟩ : ∃ e, l[i]? = some e := ⟨l[i]'(by rw [HL.out]; exact hlt), List.getElem?_eq_getElem (by rw [HL.out]; exact hlt)⟩
        obtain ⟨ea, em, ec, c0, c1, hdi, hints⟩ := atomAt (n := n) hc i e hd
        have hww := bnext HB2.out hbq
        have HNX := Lib.hid (rem_take (f := f) hd)
        have hi0 : (0 : Int) ≤ i := by omega
        have hi1 : (i : Int) < n := by omega
        have E0r := Lib.hid (cellk hww c0)
        have E1r := Lib.hid (cellk hww c1)
        have q0 := cell_regrown (w := wr) (cellk hbq K0.out)
        have q1 := cell_regrown (w := wr) (cellk hbq K1.out)
        have e0 := cell_regrown (w := wr) E0r.out
        have e1 := cell_regrown (w := wr) E1r.out
        have HIW := Lib.hid (hints.below hww)
        have HFW := Lib.hid (HFS.out.below hww)
        have hcE := Lib.hid (fun w h => hCp.out w (.agg #[.int .i64 e.1, .slice ea em ec]) e ⟨ea, em, ec, rfl, hdi, h⟩ (HZ.out e (List.mem_of_getElem? hd)))
        unfold ROAtom at hcE
        have hcS := Lib.hid (fun w h h' => hSa.out w e.1 fr (.slice ea em ec) (.slice fa fn fc) e.2 fl h h')
        rw [HFQ.out] at hcS
        have hlen2 : (remF (l.take i) f).length ≤ i := by unfold remF; exact Nat.le_trans (List.length_filter_le _ _) (List.length_take_le _ _)
        generalize remF (l.take i) f = L at *
        clear hc hbw hd c0 c1 hdi hints hbq hww
        have HEQ : ∀ q, decide (e = f) = q → Hid (remF (l.take (i + 1)) f = if q then L else L ++ [(e.1, e.2)]) := by
          rintro q rfl
          unfold Hid; rw [HNX.out]
          by_cases he : e = f
          · rw [if_pos he, if_pos (by simpa using he)]
          · rw [if_neg he, if_neg (by simpa using he)]
        obtain ⟨q, hq⟩ : ∃ q, decide (e = f) = q := ⟨_, rfl⟩
        have HNX2 := HEQ q hq
        rw [hq] at hcS
        clear HNX HEQ hq
        cases q with
        | true =>
          go_wp2_with fail
          refine wp_region_quiet_below (by kernel_rfl) (by kernel_rfl) ?_
          repeat (any_goals (first | go_big_quiet_step ((go_at_call 43; exact Calls.regrown_of (hcS.out _ (HIW.out.below (below_regrown _ _ _)) (HFW.out.below (below_regrown _ _ _))))) | quiet_step ((go_at_call 43; exact Calls.regrown_of (hcS.out _ (HIW.out.below (below_regrown _ _ _)) (HFW.out.below (below_regrown _ _ _)))))))
          refine wpQuiet_nil ?_
          intro _ hw'
          obtain ⟨⟨dq, osq⟩, hw''⟩ := hw'
          subst hw''
          have HPX := Lib.hid (HP.out.grow (below_regrown wr dq osq))
          clear q0 q1 e0 e1
          go_wp2_with fail
          exact ⟨⟨i + 1, by omega, by simp, _, by rw [HNX2.out]; exact HPX⟩, by simp [intOf]; omega⟩
        | false =>
          go_wp2_with fail
          refine wp_region_quiet_below (by kernel_rfl) (by kernel_rfl) ?_
          repeat (any_goals (first | go_big_quiet_step ((go_at_call 43; exact Calls.regrown_of (hcS.out _ (HIW.out.below (below_regrown _ _ _)) (HFW.out.below (below_regrown _ _ _))))) | quiet_step ((go_at_call 43; exact Calls.regrown_of (hcS.out _ (HIW.out.below (below_regrown _ _ _)) (HFW.out.below (below_regrown _ _ _)))))))
          refine wpQuiet_nil ?_
          intro _ hw'
          obtain ⟨⟨dq, osq⟩, hw''⟩ := hw'
          subst hw''
          have HRG := Lib.hid (below_regrown wr dq osq)
          have HPX := Lib.hid (HP.out.grow HRG.out)
          clear q0 q1 e0 e1
          have e0 := cellk HRG.out E0r.out
          have e1 := cellk HRG.out E1r.out
          have hcX := Lib.hid (hcE.out _ (HIW.out.below HRG.out))
          generalize grow (redrawn wr dq) osq = wx at *
          obtain ⟨cs, hc1, hc2⟩ := HPX.out.parts
          have HC1 := Lib.hid hc1
          have HC2 := Lib.hid hc2
          clear hc1 hc2
          go_wp2_with fail
          refine hcX.out.mono ?_
          rintro e2 w3 ⟨v2, bs2, rfl, ⟨a2, n2, c2, rfl, hr2, ho2⟩, hf2, hb2⟩
          have HB3 := Lib.hid hb2
          have HO2 := Lib.hid ho2
          have HF2 := Lib.hid hf2
          have HR2 := Lib.hid hr2
          have HGR := Lib.hid (HC1.out.grow hb2)
          clear hb2 ho2 hf2 hr2 e0 e1
          go_wp2_with (at_builtin; refine wpList_app1D rfl (.tmp 36) (.tmp 42) 27 rfl 29 (.agg #[.int .i64 0, .slice none 0 0]) 2 32 Try.underlying27 info_Fact (by decide) (by decide) (by rfl) ov L.length cs rfl HGR.out [.int .i64 e.1, .slice a2 n2 c2] rfl (by simp [Value.oneCell']) (by first | rfl | (simp; rfl)) (by omega) ?_)
          intro v' w4 hown' ko hbl
          have HNEW := Lib.hid (OutInv.step HPX.out HC1.out HC2.out HB3.out (Below.refl _ _) HO2.out HF2.out HR2.out hown' ko (fun b hb => (hbl b hb).imp id (fun h => by simpa using h)))
          clear hown' ko hbl
          go_wp2_with fail
          exact ⟨⟨i + 1, by omega, by simp, _, by rw [HNX2.out]; exact HNEW⟩, by simp [intOf]; omega⟩
      · obtain rfl : i = n := by omega
        have hT : Hid (l.take i = l) := List.take_of_length_le (by rw [HL.out]; exact Nat.le_refl _)
        clear hbq
        go_wp2_with fail
        go_ret2
        have hp := HP.out
        rw [hT.out] at hp
        obtain ⟨bs, b1, b2⟩ := hp.done
        exact ⟨_, by rw [HOK.out]; rfl, by rw [HRES.out]; exact b1.rdS, bnext HB2.out hp.below⟩
end Go.Proofs.Ytcfohmcfbjidnaa
