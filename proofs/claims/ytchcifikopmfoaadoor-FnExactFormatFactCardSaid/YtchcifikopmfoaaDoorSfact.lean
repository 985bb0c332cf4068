/- The struct Fact (a number, a list of numbers), as Atom. Written by clone.py. -/
import Derived.Test.YtchcifikopmfoaaDoorMatoms
import Derived.Test.YtchcifikopmfoaaDoorOpen2
import Derived.Lib.QuietBelow
namespace Go.Proofs.YtchcifikopmfoaaDoor
open Go Go.Sort Go.RowKit Go.ChangeShapes Go.WideShapes Go.Deep
set_option linter.unusedVariables false

abbrev RdFact := @RdAtom
abbrev ROFact := @ROAtom
abbrev sizeFact := sizeAtom
abbrev mFact := mAtom
abbrev mkFact := mkAtom
theorem mFact_le {d : Int × List Int} (h : sizeFact d ≤ 1048576) : mFact d ≤ 1048576 := h
abbrev RdFactS := @RdAtomS
abbrev ROFactS := @ROAtomS
abbrev sizeFactS := sizeAtomS
abbrev mFactS := mAtomS
abbrev mkFactS := mkAtomS
theorem mFactS_le {l : List AtomD} (h : sizeFactS l ≤ 1048576) : mFactS l ≤ 1048576 := mAtomS_le h
theorem szFact_any (w : World) (r : Int) (v : Value) (l : List Int) (left : Int) (h : Ints w v l) (h0 : 0 ≤ left) (h1 : left ≤ 1048576) :
    Calls Tryd.prog 22 #[.agg #[.int .i64 r, v], .int .i64 left] w (GaveInt w (szOf left l.length)) := by
  have hb : ∀ a, Below w.heap.size w (w.alloc a) := fun a => (Below.refl _ _).alloc (Nat.le_refl _) _
  have hs := Lib.hid (fun a => szIntS_any _ v l left (h.below (hb a)) h0 h1)
  have HB := Lib.hid hb
  have hv : (szOf left l.length < 0 ∧ szOf left l.length = -1) ∨ 0 ≤ szOf left l.length := by unfold szOf; split <;> omega
  generalize szOf left l.length = s at *
  clear h hb
  rcases hv with ⟨h2, rfl⟩ | h2
  all_goals
    go_enter Tryd.func22, Tryd.ntmps22
    go_wp2_with fail
    refine (hs.out _).mono ?_
    rintro e w1 ⟨rfl, rfl⟩
    go_wp2_with fail
    go_ret
    exact ⟨rfl, HB.out _⟩
theorem toFact_any (w : World) (r : Int) (v : Value) (l : List Int) (h : Ints w v l) (hl : l.length ≤ 1048576) :
    Calls Tryd.prog 24 #[.agg #[.int .i64 r, v]] w (GaveO (fun w' v bs => ∃ a n c, v = .agg #[.int .i64 r, .slice a n c] ∧ OInts w' (.slice a n c) l bs) w) := by
  have ht := Lib.hid (fun w h => toIntS_any w v l h hl)
  have HI := Lib.hid h
  clear h
  go_enter Tryd.func24, Tryd.ntmps24
  go_wp2_with fail
  have hb0 : ∀ a b c, Below w.heap.size w (((w.alloc a).alloc b).alloc c) := fun a b c => (((Below.refl _ _).alloc (Nat.le_refl _) _).alloc (by simp) _).alloc (by simp; omega) _

  refine (ht.out _ (HI.out.below (hb0 _ _ _))).mono ?_
  rintro e w1 ⟨v', bs, rfl, hi, hn, hb⟩
  obtain ⟨a', n', c', rfl⟩ := hi.1.shape
  have HN := Lib.hid hn
  have HV := Lib.hid hi
  have HB := Lib.hid (bnext (hb0 _ _ _) hb)
  obtain ⟨hc, hf⟩ := bcell hb
  have hz := hb.size
  simp at hz
  clear hi hb0 hb hn
  go_wp2_with fail
  refine bodyPost_ret (v := .agg #[.int .i64 r, .slice a' n' c']) (by simp [results, Tryd.results24, go_sem, hc]) rfl ⟨_, bs, rfl, ⟨_, _, _, rfl, ?_⟩, ?_, ?_⟩
  · exact ((HV.out.setCell HN.out.lo _ _ _ (by simp)).setCell HN.out.lo _ _ _ (by simp)).setCell HN.out.lo _ _ _ (by simp)
  · exact HN.out.wide (by simp; omega) (by simp [World.setCell])
  · exact ((HB.out.setCell (by simp; omega) _).setCell (by simp) _).setCell (by simp) _
set_option maxHeartbeats 1000000 in
theorem eqFact_any (w : World) (r r' : Int) (v v' : Value) (l l' : List Int) (h : Ints w v l) (h' : Ints w v' l') :
    Calls Tryd.prog 26 #[.agg #[.int .i64 r, v], .agg #[.int .i64 r', v']] w (GaveBool w (decide (r = r' ∧ l = l'))) := by
  have hb0 : ∀ a b, Below w.heap.size w ((w.alloc a).alloc b) := fun a b => ((Below.refl _ _).alloc (Nat.le_refl _) _).alloc (by simp) _
  have hE := Lib.hid (fun a b => eqIntS_any _ v v' l l' (h.below (hb0 a b)) (h'.below (hb0 a b)))
  have HB0 := Lib.hid hb0
  clear h h' hb0
  by_cases hr : r = r'
  · have hq : decide (r = r' ∧ l = l') = decide (l = l') := by simp [hr]
    rw [hq]
    subst hr
    clear hq
    cases hd : decide (l = l')
    all_goals
      rw [hd] at hE
      clear hd
      go_enter Tryd.func26, Tryd.ntmps26
      go_wp2_with fail
      refine (hE.out _ _).mono ?_
      rintro e w1 ⟨rfl, hb⟩
      have HB := Lib.hid (bnext (HB0.out _ _) hb)
      clear hb
      go_wp2_with fail
      go_ret
      exact ⟨rfl, HB.out⟩
  · have HQ : Hid (decide (r = r' ∧ l = l') = false) := decide_eq_false (fun h => hr h.1)
    have q : (r != r') = true := bne_iff_ne.2 hr
    clear hr
    go_enter Tryd.func26, Tryd.ntmps26
    go_wp2_with fail
    go_ret
    exact ⟨ret_b HQ.out.symm, HB0.out _ _⟩
theorem szFactR (w : World) (v : Value) (d : Int × List Int) (left : Int) (h : RdAtom w v d) (h0 : 0 ≤ left) (h1 : left ≤ 1048576) :
    Calls Tryd.prog 22 #[v, .int .i64 left] w (GaveInt w (szOf left (sizeAtom d))) := by
  obtain ⟨a, n, c, rfl, _, h⟩ := h; exact szFact_any w _ _ d.2 left h h0 h1
theorem toFactR (w : World) (v : Value) (d : Int × List Int) (h : RdAtom w v d) (hl : sizeAtom d ≤ 1048576) :
    Calls Tryd.prog 24 #[v] w (GaveD (fun w' v => RdAtom w' v d) w) := by
  obtain ⟨a, n, c, rfl, hi, h⟩ := h
  refine (toFact_any w _ _ d.2 h hl).mono ?_
  rintro e w' ⟨v, bs, rfl, ⟨a', n', c', rfl, hv⟩, _, hb⟩
  exact ⟨_, rfl, ⟨_, _, _, rfl, hi, hv.1⟩, hb⟩
theorem eqFactR (w : World) (v v' : Value) (d : Int × List Int) (h : RdAtom w v d) (h' : RdAtom w v' d) :
    Calls Tryd.prog 26 #[v, v'] w (GaveBool w true) := by
  obtain ⟨a, n, c, rfl, _, h⟩ := h
  obtain ⟨a', n', c', rfl, _, h'⟩ := h'
  have := eqFact_any w d.1 d.1 _ _ d.2 d.2 h h'
  rwa [decide_eq_true ⟨rfl, rfl⟩] at this
theorem toFactO (w : World) (v : Value) (d : Int × List Int) (h : RdAtom w v d) (hl : sizeAtom d ≤ 1048576) :
    Calls Tryd.prog 24 #[v] w (GaveO (fun w' v bs => ROAtom w' v d bs) w) := by
  obtain ⟨a, n, c, rfl, hi, h⟩ := h
  refine (toFact_any w _ _ d.2 h hl).mono ?_
  rintro e w' ⟨v, bs, rfl, ⟨a', n', c', rfl, hv⟩, hf, hb⟩
  exact ⟨_, bs, rfl, ⟨_, _, _, rfl, hi, hv⟩, hf, hb⟩
theorem markFact_any (w : World) (r : Int) (v : Value) (l : List Int) (bs : List Nat) (k : Int) (h : OInts w v l bs) (hm : l.length ≤ 1048576) (h0 : 0 ≤ k) (h1 : k ≤ 4503599627370496) :
    Calls Tryd.prog 33 #[.agg #[.int .i64 r, v], .int .i64 k] w (GaveMark (k + l.length) bs (fun w' => OInts w' v (iota k l.length) bs) w) := by
  have hb : ∀ a, Below w.heap.size w (w.alloc a) := fun a => (Below.refl _ _).alloc (Nat.le_refl _) _
  have hs := Lib.hid (fun a => markIntS_any _ v l bs k (h.below (hb a)) hm h0 h1)
  have HB := Lib.hid hb
  clear h hb
  go_enter Tryd.func33, Tryd.ntmps33
  go_wp2_with fail
  refine (hs.out _).mono ?_
  rintro e w1 ⟨rfl, hr, ho⟩
  have HR := Lib.hid hr
  have HO := Lib.hid ((OnlyAt.ofBelow bs (HB.out _)).same ho)
  clear hr ho
  go_wp2_with fail
  go_ret
  exact ⟨rfl, HR.out, HO.out⟩
theorem heldFact_any (w : World) (r : Int) (v : Value) (l : List Int) (k : Int) (h : Ints w v l) (he : l = iota k l.length) (hm : l.length ≤ 1048576) (h0 : 0 ≤ k) (h1 : k ≤ 4503599627370496) :
    Calls Tryd.prog 34 #[.agg #[.int .i64 r, v], .int .i64 k] w (GaveInt w (k + l.length)) := by
  have hb : ∀ a, Below w.heap.size w (w.alloc a) := fun a => (Below.refl _ _).alloc (Nat.le_refl _) _
  have hs := Lib.hid (fun a => heldIntS_any _ v l k (h.below (hb a)) he hm h0 h1)
  have HB := Lib.hid hb
  have hnn : 0 ≤ k + l.length := by omega
  generalize k + (l.length : Int) = s at *
  clear h hb he hm h1 h0
  go_enter Tryd.func34, Tryd.ntmps34
  go_wp2_with fail
  refine (hs.out _).mono ?_
  rintro e w1 ⟨rfl, hb⟩
  have HB1 := Lib.hid (bnext (HB.out _) hb)
  clear hb
  go_wp2_with fail
  go_ret
  exact ⟨rfl, HB1.out⟩
theorem markFactR (w : World) (v : Value) (d : Int × List Int) (bs : List Nat) (k : Int) (h : ROAtom w v d bs) (hnd : bs.Nodup) (hm : mAtom d ≤ 1048576) (h0 : 0 ≤ k) (h1 : k ≤ 4503599627370496) :
    Calls Tryd.prog 33 #[v, .int .i64 k] w (GaveMark (k + mAtom d) bs (fun w' => ROAtom w' v (mkAtom k d) bs) w) := by
  obtain ⟨a, n, c, rfl, hi, h⟩ := h
  exact (markFact_any w d.1 _ d.2 bs k h hm h0 h1).mono fun e w' ⟨he, hr, ho⟩ => ⟨he, ⟨a, n, c, rfl, hi, hr⟩, ho⟩
theorem heldFactR (w : World) (v : Value) (d : Int × List Int) (k : Int) (h : RdAtom w v (mkAtom k d)) (hm : mAtom d ≤ 1048576) (h0 : 0 ≤ k) (h1 : k ≤ 4503599627370496) :
    Calls Tryd.prog 34 #[v, .int .i64 k] w (GaveInt w (k + mAtom d)) := by
  obtain ⟨a, n, c, rfl, hi, h⟩ := h
  have := heldFact_any w d.1 _ (iota k d.2.length) k h (by rw [iota_length]) (by rw [iota_length]; exact hm) h0 h1
  rwa [iota_length] at this
theorem info_Fact : (Tryd.prog.info? 49).map (fun i => (i.zero, i.size, i.bytes)) = some (some (.agg #[.int .i64 0, .slice none 0 0]), 2, 32) := by kernel_rfl
theorem zeroFacts {w w1 : World} {n : Nat} (h : BuiltC 49 2 w w1 (.slice (some ⟨w.heap.size, 0, none⟩) n n) n (madeCells #[.int .i64 0, .slice none 0 0] (n * 2)).toList) : RowO 2 COAtom w1 w.heap.size 0 (List.replicate n ((0, []) : AtomD)) (List.replicate n []) := by
  refine ⟨by simp, h.lt.2, fun t ht => ?_, fun j d hd => ?_⟩
  · rw [Nat.zero_add]; exact h.frozen t
  · have hj : j < n := by
      rcases Nat.lt_or_ge j n with h5 | h5
      · exact h5
      · rw [List.getElem?_eq_none (by simpa using h5)] at hd; cases hd
    rw [List.getElem?_replicate, if_pos hj] at hd
    cases hd
    refine ⟨[.int .i64 0, .slice none 0 0], rfl, fun e he => ?_, none, 0, 0, rfl, ⟨by decide, by decide⟩, Ints.nil _, .inl ⟨none, 0, rfl, ?_⟩⟩
    · rw [Nat.zero_add, h.cell _ (by omega), madeAtoms _ _ (by omega)]
      have : e = 0 ∨ e = 1 := by omega
      rcases this with rfl | rfl
      · rw [if_pos (by omega)]; rfl
      · rw [if_neg (by omega)]; rfl
    · rw [List.getD_eq_getElem?_getD, List.getElem?_replicate]; split <;> rfl
section
variable {H : Type} {enc : TypeId × Value → H} {w : World} {spare : Nat → Bool} {held : Bool}
set_option maxRecDepth 100000 in
theorem cs_Fact {fuel : Nat} {cs : List Value} {x : DataW H × List MemPlace} (h : DataW.trod enc Tryd.prog w 0 spare held fuel 46 cs = some x) :
    ∃ a n c, ∃ d : Int × List Int, cs = [.int .i64 d.1, .slice a n c] ∧ inI d.1 ∧ Ints w (.slice a n c) d.2 := by
  obtain ⟨xs, n, _, _, hcl, hlen, hg⟩ := DataW.trod_struct Tryd.underlying46 h
  have hcl' : cs.length = 2 := hcl.trans (by kernel_rfl)
  match cs, hcl', xs, hlen with
  | [c0, c1], _, [y0, y1], _ =>
    have g0 := hg 0 _ rfl
    have g1 := hg 1 _ rfl
    obtain ⟨z, hz, _, hw⟩ := DataW.trod_int Tryd.underlying3 (show DataW.trod enc Tryd.prog w 0 spare held n 3 [c0] = some y0 from g0)
    obtain ⟨a, n', c, l, hc, hi⟩ := ints_of_trod Tryd.underlying22 Tryd.underlying3 (by kernel_rfl) (show DataW.trod enc Tryd.prog w 0 spare held n 22 [c1] = some y1 from g1)
    refine ⟨a, n', c, (z, l), ?_, wf_inI hw, hi⟩
    simp at hz hc
    rw [hz, hc]
end
section
variable {H : Type} {enc : TypeId × Value → H} {w : World} {spare : Nat → Bool} {held : Bool}
set_option maxRecDepth 100000 in
theorem open_RdFact {r : Reach} {b0 : Nat} {v : Value} {dd : DataW H} {p : List MemPlace} (hv : Value.okWide Tryd.prog w r b0 46 v) (h : DataW.Trod enc Tryd.prog w 0 spare held 46 v dd p) : ∃ d, RdAtom w v d := by
  obtain ⟨⟨cs⟩, rfl, hsz⟩ := okWide_struct Tryd.underlying46 hv
  obtain ⟨fuel, hf⟩ := h
  obtain ⟨a, n, c, d, rfl, hr, hi⟩ := cs_Fact hf
  exact ⟨d, a, n, c, rfl, hr, hi⟩
end

section
variable {H : Type} {enc : TypeId × Value → H} {w : World} {spare : Nat → Bool} {held : Bool}
end
end Go.Proofs.YtchcifikopmfoaaDoor
