/- Contracts of chapter 8: CounterExample of spec and impl. -/
import Derived.Test.YtfojllkkbdpfkaaGreatC8con
import Derived.Test.YtfojllkkbdpfkaaGreatS8fr
import Derived.Test.YtfojllkkbdpfkaaGreatI8all
import Derived.OwnWalk
namespace Go.Proofs.YtfojllkkbdpfkaaGreat
open Go Go.RowKit
set_option linter.unusedVariables false

/-- Whether there is a counterexample; its facts, its tuple. -/
def ceB (s : List Int) (a b : QueryD) : Bool := fineB s a 4 && (fineB s b 4 && (decide (a.1.length = b.1.length) && !conB8 s a b))
def ceDb (s : List Int) (a b : QueryD) : List AtomD := if ceB s a b then frzDb a else []
def ceHd (s : List Int) (a b : QueryD) : List Int := if ceB s a b then frzHd a else []
theorem ceDb_no {s : List Int} {a b : QueryD} (h : ceB s a b = false) : ceDb s a b = [] := by unfold ceDb; rw [h]; rfl
theorem ceHd_no {s : List Int} {a b : QueryD} (h : ceB s a b = false) : ceHd s a b = [] := by unfold ceHd; rw [h]; rfl
theorem ceDb_yes {s : List Int} {a b : QueryD} (h : ceB s a b = true) : ceDb s a b = frzDb a := by unfold ceDb; rw [if_pos h]
theorem ceHd_yes {s : List Int} {a b : QueryD} (h : ceB s a b = true) : ceHd s a b = frzHd a := by unfold ceHd; rw [if_pos h]
def GaveCeO (w : World) (l : List AtomD) (h : List Int) (b : Bool) (e : Ending) (w' : World) : Prop := ∃ r0 r1 bs0 bs1, e = .returned (.tuple #[r0, r1, .bool b]) ∧ ROAtomS w' r0 l bs0 ∧ ROIntS w' r1 h bs1 ∧ Fresh w w' (bs0 ++ bs1) ∧ Below w.heap.size w w'
theorem gaveCe_nil (w0 w : World) (hb : Below w0.heap.size w0 w) : GaveCeO w0 [] [] false (.returned (.tuple #[.slice none 0 0, .slice none 0 0, .bool false])) w := by
  obtain ⟨r0, r1, b0, b1, e, h1, h2, h3, h4⟩ := gaveFz_nil w0 w hb ([20], []) rfl
  cases e
  exact ⟨_, _, b0, b1, rfl, h1, h2, h3, h4⟩
set_option maxRecDepth 100000 in
set_option maxHeartbeats 4000000 in
theorem iCounter_any (w : World) (vs va vb : Value) (s : List Int) (a b : QueryD) (hs : RdSchema w vs s) (ha : RdQuery w va a) (hb : RdQuery w vb b) (hz : sizeAtomS a.2 ≤ 1048576) (hz2 : sizeAtomS b.2 ≤ 1048576) :
    Calls Tryz.prog 34 #[vs, va, vb] w (GaveCeO w (ceDb s a b) (ceHd s a b) (ceB s a b)) := by
  have hb0 : ∀ a b c, Below w.heap.size w (((w.alloc a).alloc b).alloc c) := fun a b c => (((Below.refl _ _).alloc (Nat.le_refl _) _).alloc (by simp) _).alloc (by simp; omega) _
  have HB0 := Lib.hid hb0
  have HQA := Lib.hid (fun W (hbW : Below w.heap.size w W) => iIsQuery_any W vs va s a (RdSchema.below hs hbW) (RdQuery.below ha hbW) hz)
  have HQB := Lib.hid (fun W (hbW : Below w.heap.size w W) => iIsQuery_any W vs vb s b (RdSchema.below hs hbW) (RdQuery.below hb hbW) hz2)
  have HCO := Lib.hid (fun W (hbW : Below w.heap.size w W) => iContained_any W vs va vb s a b (RdSchema.below hs hbW) (RdQuery.below ha hbW) (RdQuery.below hb hbW) hz hz2)
  have HFZ := Lib.hid (fun W (hbW : Below w.heap.size w W) => iFreeze_any W va a (RdQuery.below ha hbW))
  obtain ⟨sa, sn, sc, rfl, hs⟩ := hs
  obtain ⟨fa, fn, fc, ga, gn, gc, rfl, hf1, hf2⟩ := ha
  obtain ⟨ta, tn, tc, ua, un, uc, rfl, ht1, ht2⟩ := hb
  have hl1 : a.1.length = fn := by obtain ⟨_, _, _, e, h, _⟩ := hf1.cases; cases e; exact h
  have hl2 : b.1.length = tn := by obtain ⟨_, _, _, e, h, _⟩ := ht1.cases; cases e; exact h
  have HCE : Hid (ceB s a b = (fineB s a 4 && (fineB s b 4 && (decide (a.1.length = b.1.length) && !conB8 s a b)))) := rfl
  obtain ⟨p1, hp1⟩ : ∃ p, fineB s a 4 = p := ⟨_, rfl⟩
  obtain ⟨p2, hp2⟩ : ∃ p, fineB s b 4 = p := ⟨_, rfl⟩
  obtain ⟨p3, hp3⟩ : ∃ p, conB8 s a b = p := ⟨_, rfl⟩
  rw [hp1] at HQA HCE
  rw [hp2] at HQB HCE
  rw [hp3] at HCO HCE
  rw [hl1, hl2] at HCE
  have HN1 := Lib.hid (fun h => ceDb_no (s := s) (a := a) (b := b) h)
  have HN2 := Lib.hid (fun h => ceHd_no (s := s) (a := a) (b := b) h)
  have HY1 := Lib.hid (fun h => ceDb_yes (s := s) (a := a) (b := b) h)
  have HY2 := Lib.hid (fun h => ceHd_yes (s := s) (a := a) (b := b) h)
  generalize ceDb s a b = cd at *
  generalize ceHd s a b = ch at *
  generalize ceB s a b = cb at *
  clear hs hf1 hf2 ht1 ht2 hz hz2 hb0 hp1 hp2 hp3 hl1 hl2
  go_enter Tryz.func34, Tryz.ntmps34
  go_wp2_with fail
  obtain ⟨W, hW⟩ : ∃ W, W = ((w.alloc (.cells #[.slice sa sn sc] 34)).alloc (.cells #[.slice fa fn fc, .slice ga gn gc] 38)).alloc (.cells #[.slice ta tn tc, .slice ua un uc] 38) := ⟨_, rfl⟩
  have HBW : Hid (Below w.heap.size w W) := by rw [hW]; exact HB0.out _ _ _
  have q0 : W.cell? ⟨w.heap.size, 0, none⟩ = some (.slice sa sn sc) := by rw [hW]; exact box1 w _ _ _ _ 0 _ rfl
  have q1 : W.cell? ⟨w.heap.size + 1, 0, none⟩ = some (.slice fa fn fc) := by rw [hW]; exact box2 w _ _ _ _ 0 _ rfl
  have q2 : W.cell? ⟨w.heap.size + 1, 1, none⟩ = some (.slice ga gn gc) := by rw [hW]; exact box2 w _ _ _ _ 1 _ rfl
  have q3 : W.cell? ⟨w.heap.size + 1 + 1, 0, none⟩ = some (.slice ta tn tc) := by rw [hW]; exact box3 w _ _ _ _ 0 _ rfl
  have q4 : W.cell? ⟨w.heap.size + 1 + 1, 1, none⟩ = some (.slice ua un uc) := by rw [hW]; exact box3 w _ _ _ _ 1 _ rfl
  rw [← hW]
  clear hW
  refine (HQA.out _ HBW.out).mono ?_
  rintro e w1 ⟨rfl, hbb⟩
  replace q0 := cellk hbb q0
  replace q1 := cellk hbb q1
  replace q2 := cellk hbb q2
  replace q3 := cellk hbb q3
  replace q4 := cellk hbb q4
  have HB1 := Lib.hid (bnext HBW.out hbb)
  clear hbb
  cases p1 with
  | false =>
    have HC : Hid (cb = false) := Lib.hid (by rw [HCE.out]; rfl)
    go_wp2_with fail
    go_ret3
    rw [HN1.out HC.out, HN2.out HC.out, HC.out]
    exact gaveCe_nil w w1 HB1.out
  | true =>
    go_wp2_with fail
    refine (HQB.out _ HB1.out).mono ?_
    rintro e w2 ⟨rfl, hbb⟩
    replace q0 := cellk hbb q0
    replace q1 := cellk hbb q1
    replace q2 := cellk hbb q2
    replace q3 := cellk hbb q3
    replace q4 := cellk hbb q4
    have HB2 := Lib.hid (bnext HB1.out hbb)
    clear hbb
    cases p2 with
    | false =>
      have HC : Hid (cb = false) := Lib.hid (by rw [HCE.out]; rfl)
      go_wp2_with fail
      go_ret3
      rw [HN1.out HC.out, HN2.out HC.out, HC.out]
      exact gaveCe_nil w w2 HB2.out
    | true =>
      by_cases hl : fn = tn
      · have hl3 : ((fn : Int) != tn) = false := by simp [hl]
        have HLL := Lib.hid hl
        clear hl
        go_wp2_with fail
        refine (HCO.out _ HB2.out).mono ?_
        rintro e w3 ⟨rfl, hbb⟩
        replace q0 := cellk hbb q0
        replace q1 := cellk hbb q1
        replace q2 := cellk hbb q2
        replace q3 := cellk hbb q3
        replace q4 := cellk hbb q4
        have HB3 := Lib.hid (bnext HB2.out hbb)
        clear hbb
        cases p3 with
        | true =>
          have HC : Hid (cb = false) := Lib.hid (by rw [HCE.out]; simp)
          go_wp2_with fail
          go_ret3
          rw [HN1.out HC.out, HN2.out HC.out, HC.out]
          exact gaveCe_nil w w3 HB3.out
        | false =>
          have HC : Hid (cb = true) := Lib.hid (by rw [HCE.out]; simp [HLL.out])
          go_wp2_with fail
          refine (HFZ.out _ HB3.out).mono ?_
          rintro e w4 ⟨v1, v2, bs1, bs2, rfl, ho1, ho2, hfr, hbb⟩
          have HO1 := Lib.hid ho1
          have HO2 := Lib.hid ho2
          have HFR := Lib.hid (hfr.wide HB3.out.size (Nat.le_refl _) : Fresh w w4 (bs1 ++ bs2))
          have HB4 := Lib.hid (bnext HB3.out hbb)
          clear ho1 ho2 hfr hbb q0 q1 q2 q3 q4
          go_wp2_with fail
          go_ret3
          rw [HY1.out HC.out, HY2.out HC.out, HC.out]
          exact ⟨v1, v2, bs1, bs2, rfl, HO1.out, HO2.out, HFR.out, HB4.out⟩
      · have hl3 : ((fn : Int) != tn) = true := by simp; omega
        have HLL := Lib.hid hl
        clear hl
        have HC : Hid (cb = false) := Lib.hid (by rw [HCE.out]; simp [HLL.out])
        go_wp2_with fail
        go_ret3
        rw [HN1.out HC.out, HN2.out HC.out, HC.out]
        exact gaveCe_nil w w2 HB2.out

end Go.Proofs.YtfojllkkbdpfkaaGreat
