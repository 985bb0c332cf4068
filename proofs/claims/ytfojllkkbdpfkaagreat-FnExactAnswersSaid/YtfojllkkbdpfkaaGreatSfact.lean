/- The struct Fact (a number, a list of numbers), as Atom. Written by clone.py. -/
import Derived.Test.YtfojllkkbdpfkaaGreatMatoms
import Derived.Test.YtfojllkkbdpfkaaGreatOpenAll
import Derived.Lib.QuietBelow
namespace Go.Proofs.YtfojllkkbdpfkaaGreat
open Go Go.Sort Go.RowKit Go.ChangeShapes Go.WideShapes Go.Deep
set_option linter.unusedVariables false

abbrev RdFact := @RdAtom
abbrev ROFact := @ROAtom
abbrev sizeFact := sizeAtom
abbrev mFact := mAtom
abbrev mkFact := mkAtom
theorem mFact_le {d : Int × List Int} (h : sizeFact d ≤ 1048576) : mFact d ≤ 1048576 := h
abbrev RdFactS := @RdAtomS
abbrev ROFactS := @ROAtomS
abbrev sizeFactS := sizeAtomS
abbrev mFactS := mAtomS
abbrev mkFactS := mkAtomS
theorem mFactS_le {l : List AtomD} (h : sizeFactS l ≤ 1048576) : mFactS l ≤ 1048576 := mAtomS_le h
theorem szFact_any (w : World) (r : Int) (v : Value) (l : List Int) (left : Int) (h : Ints w v l) (h0 : 0 ≤ left) (h1 : left ≤ 1048576) :
    Calls Tryz.prog 61 #[.agg #[.int .i64 r, v], .int .i64 left] w (GaveInt w (szOf left l.length)) := by
  have hb : ∀ a, Below w.heap.size w (w.alloc a) := fun a => (Below.refl _ _).alloc (Nat.le_refl _) _
  have hs := Lib.hid (fun a => szIntS_any _ v l left (h.below (hb a)) h0 h1)
  have HB := Lib.hid hb
  have hv : (szOf left l.length < 0 ∧ szOf left l.length = -1) ∨ 0 ≤ szOf left l.length := by unfold szOf; split <;> omega
  generalize szOf left l.length = s at *
  clear h hb
  rcases hv with ⟨h2, rfl⟩ | h2
  all_goals
    go_enter Tryz.func61, Tryz.ntmps61
    go_wp2_with fail
    refine (hs.out _).mono ?_
    rintro e w1 ⟨rfl, rfl⟩
    go_wp2_with fail
    go_ret
    exact ⟨rfl, HB.out _⟩
theorem toFact_any (w : World) (r : Int) (v : Value) (l : List Int) (h : Ints w v l) (hl : l.length ≤ 1048576) :
    Calls Tryz.prog 65 #[.agg #[.int .i64 r, v]] w (GaveO (fun w' v bs => ∃ a n c, v = .agg #[.int .i64 r, .slice a n c] ∧ OInts w' (.slice a n c) l bs) w) := by
  have ht := Lib.hid (fun w h => toIntS_any w v l h hl)
  have HI := Lib.hid h
  clear h
  go_enter Tryz.func65, Tryz.ntmps65
  go_wp2_with fail
  have hb0 : ∀ a b c, Below w.heap.size w (((w.alloc a).alloc b).alloc c) := fun a b c => (((Below.refl _ _).alloc (Nat.le_refl _) _).alloc (by simp) _).alloc (by simp; omega) _

  refine (ht.out _ (HI.out.below (hb0 _ _ _))).mono ?_
  rintro e w1 ⟨v', bs, rfl, hi, hn, hb⟩
  obtain ⟨a', n', c', rfl⟩ := hi.1.shape
  have HN := Lib.hid hn
  have HV := Lib.hid hi
  have HB := Lib.hid (bnext (hb0 _ _ _) hb)
  obtain ⟨hc, hf⟩ := bcell hb
  have hz := hb.size
  simp at hz
  clear hi hb0 hb hn
  go_wp2_with fail
  refine bodyPost_ret (v := .agg #[.int .i64 r, .slice a' n' c']) (by simp [results, Tryz.results65, go_sem, hc]) rfl ⟨_, bs, rfl, ⟨_, _, _, rfl, ?_⟩, ?_, ?_⟩
  · exact ((HV.out.setCell HN.out.lo _ _ _ (by simp)).setCell HN.out.lo _ _ _ (by simp)).setCell HN.out.lo _ _ _ (by simp)
  · exact HN.out.wide (by simp; omega) (by simp [World.setCell])
  · exact ((HB.out.setCell (by simp; omega) _).setCell (by simp) _).setCell (by simp) _
set_option maxHeartbeats 1000000 in
theorem eqFact_any (w : World) (r r' : Int) (v v' : Value) (l l' : List Int) (h : Ints w v l) (h' : Ints w v' l') :
    Calls Tryz.prog 71 #[.agg #[.int .i64 r, v], .agg #[.int .i64 r', v']] w (GaveBool w (decide (r = r' ∧ l = l'))) := by
  have hb0 : ∀ a b, Below w.heap.size w ((w.alloc a).alloc b) := fun a b => ((Below.refl _ _).alloc (Nat.le_refl _) _).alloc (by simp) _
  have hE := Lib.hid (fun a b => eqIntS_any _ v v' l l' (h.below (hb0 a b)) (h'.below (hb0 a b)))
  have HB0 := Lib.hid hb0
  clear h h' hb0
  by_cases hr : r = r'
  · have hq : decide (r = r' ∧ l = l') = decide (l = l') := by simp [hr]
    rw [hq]
    subst hr
    clear hq
    cases hd : decide (l = l')
    all_goals
      rw [hd] at hE
      clear hd
      go_enter Tryz.func71, Tryz.ntmps71
      go_wp2_with fail
      refine (hE.out _ _).mono ?_
      rintro e w1 ⟨rfl, hb⟩
      have HB := Lib.hid (bnext (HB0.out _ _) hb)
      clear hb
      go_wp2_with fail
      go_ret
      exact ⟨rfl, HB.out⟩
  · have HQ : Hid (decide (r = r' ∧ l = l') = false) := decide_eq_false (fun h => hr h.1)
    have q : (r != r') = true := bne_iff_ne.2 hr
    clear hr
    go_enter Tryz.func71, Tryz.ntmps71
    go_wp2_with fail
    go_ret
    exact ⟨ret_b HQ.out.symm, HB0.out _ _⟩
theorem szFactR (w : World) (v : Value) (d : Int × List Int) (left : Int) (h : RdAtom w v d) (h0 : 0 ≤ left) (h1 : left ≤ 1048576) :
    Calls Tryz.prog 61 #[v, .int .i64 left] w (GaveInt w (szOf left (sizeAtom d))) := by
  obtain ⟨a, n, c, rfl, _, h⟩ := h; exact szFact_any w _ _ d.2 left h h0 h1
theorem toFactR (w : World) (v : Value) (d : Int × List Int) (h : RdAtom w v d) (hl : sizeAtom d ≤ 1048576) :
    Calls Tryz.prog 65 #[v] w (GaveD (fun w' v => RdAtom w' v d) w) := by
  obtain ⟨a, n, c, rfl, hi, h⟩ := h
  refine (toFact_any w _ _ d.2 h hl).mono ?_
  rintro e w' ⟨v, bs, rfl, ⟨a', n', c', rfl, hv⟩, _, hb⟩
  exact ⟨_, rfl, ⟨_, _, _, rfl, hi, hv.1⟩, hb⟩
theorem eqFactR (w : World) (v v' : Value) (d : Int × List Int) (h : RdAtom w v d) (h' : RdAtom w v' d) :
    Calls Tryz.prog 71 #[v, v'] w (GaveBool w true) := by
  obtain ⟨a, n, c, rfl, _, h⟩ := h
  obtain ⟨a', n', c', rfl, _, h'⟩ := h'
  have := eqFact_any w d.1 d.1 _ _ d.2 d.2 h h'
  rwa [decide_eq_true ⟨rfl, rfl⟩] at this
theorem toFactO (w : World) (v : Value) (d : Int × List Int) (h : RdAtom w v d) (hl : sizeAtom d ≤ 1048576) :
    Calls Tryz.prog 65 #[v] w (GaveO (fun w' v bs => ROAtom w' v d bs) w) := by
  obtain ⟨a, n, c, rfl, hi, h⟩ := h
  refine (toFact_any w _ _ d.2 h hl).mono ?_
  rintro e w' ⟨v, bs, rfl, ⟨a', n', c', rfl, hv⟩, hf, hb⟩
  exact ⟨_, bs, rfl, ⟨_, _, _, rfl, hi, hv⟩, hf, hb⟩
set_option maxHeartbeats 2000000 in
theorem szFactSR (w : World) (v : Value) (l : List AtomD) (left : Int) (h : RdAtomS w v l) (h0 : 0 ≤ left) (h1 : left ≤ 1048576) :
    Calls Tryz.prog 11 #[v, .int .i64 left] w (GaveInt w (szOf left (sizeAtomS l))) := by
  obtain ⟨a, n, c, rfl, h⟩ := h
  obtain ⟨hl, hn, hm, hcell⟩ := h.at
  unfold maxLen at hm
  have HC := Lib.hid hcell
  have HL := Lib.hid hl
  have hz := Lib.hid (fun w r v l left a b c => szFact_any w r v l left a b c)
  clear h hcell hl
  by_cases hneg : left - (n : Int) < 0
  · have HQ : Hid (szOf left (sizeAtomS l) = -1) := szOf_no (by have := HL.out; unfold sizeAtomS; omega)
    go_enter Tryz.func11, Tryz.ntmps11
    go_wp2_with fail
    go_ret
    exact ⟨ret_n HQ.out.symm, Below.refl _ _⟩
  · have q0 : decide (left - (n : Int) < 0) = false := decide_eq_false hneg
    have hpos : 0 ≤ left - (n : Int) := by omega
    clear hneg
    go_enter Tryz.func11, Tryz.ntmps11
    go_wp2_with fail
    go_loopw [1, 5] (fun lv iv wr => ∃ i : Nat, i ≤ n ∧ iv = .int .i64 i ∧ lv = .int .i64 (left - n - (sumArgs (l.take i) : Int)) ∧ 0 ≤ left - (n : Int) - (sumArgs (l.take i) : Int) ∧ Below w.heap.size w wr) (fun _ iv _ => n - (intOf iv).toNat)
    case atStart => exact ⟨0, by omega, rfl, by simp [sumArgs], by simpa [sumArgs] using hpos, Below.refl _ _⟩
    case round =>
      obtain ⟨i, hi, rfl, rfl, hnn, hb⟩ := hrel
      have HB := Lib.hid hb
      by_cases hlt : i < n
      · obtain ⟨b, off, rfl, hbw, hc⟩ := HC.out (by omega)
        obtain ⟨d, hd⟩ : ∃ d, l[i]? = some d := ⟨l[i]'(by rw [HL.out]; exact hlt), List.getElem?_eq_getElem (by rw [HL.out]; exact hlt)⟩
        obtain ⟨a', m', c', c0, c1, hdi, hints⟩ := atomAt (n := n) hc i d hd
        have HS := Lib.hid (sumArgs_take hd)
        have HT := Lib.hid (sumArgs_le l (i + 1))
        replace c0 := cellk hb c0
        replace c1 := cellk hb c1
        have HV := Lib.hid (hints.below hb)
        have hi0 : (0 : Int) ≤ i := by omega
        have hi1 : (i : Int) < n := by omega
        have hcall := Lib.hid (hz.out wr d.1 (.slice a' m' c') d.2 (left - n - (sumArgs (l.take i) : Int)) HV.out hnn (by omega))
        clear hc hbw hb hd hints hdi
        by_cases hov : left - n - (sumArgs (l.take i) : Int) - (d.2.length : Int) < 0
        · have HQ : Hid (szOf left (sizeAtomS l) = -1) := szOf_no (by have := HL.out; have := HS.out; have := HT.out; unfold sizeAtomS; omega)
          rw [szOf_no (by omega)] at hcall
          generalize sumArgs (l.take i) = s at *
          generalize d.1 = r at *
          clear hov HS HT HV
          go_wp2_with fail
          refine hcall.out.mono ?_
          rintro e w2 ⟨rfl, hb⟩
          have HB2 := Lib.hid (bnext HB.out hb)
          clear hb
          go_wp2_with fail
          go_ret
          exact ⟨ret_n HQ.out.symm, HB2.out⟩
        · rw [szOf_ok (by omega)] at hcall
          have hov2 : 0 ≤ left - n - (sumArgs (l.take i) : Int) - (d.2.length : Int) := by omega
          generalize sumArgs (l.take i) = s at *
          generalize d.2.length = dl at *
          generalize d.1 = r at *
          clear hov HT HV
          go_wp2_with fail
          refine hcall.out.mono ?_
          rintro e w2 ⟨rfl, hb⟩
          have HB2 := Lib.hid (bnext HB.out hb)
          clear hb
          go_wp2_with fail
          exact ⟨⟨i + 1, by omega, by simp, by rw [HS.out]; congr 1; omega, by rw [HS.out]; omega, HB2.out⟩, by simp [intOf]; omega⟩
      · obtain rfl : i = n := by omega
        have HQ : Hid (left - i - (sumArgs (l.take i) : Int) = szOf left (sizeAtomS l)) := by
          have := HL.out
          unfold Hid
          rw [List.take_of_length_le (by omega)] at hnn ⊢
          rw [szOf_ok (by unfold sizeAtomS; omega)]; unfold sizeAtomS; omega
        clear hb
        generalize sumArgs (l.take i) = s at *
        go_wp2_with fail
        go_ret
        exact ⟨ret_n HQ.out, HB.out⟩
set_option maxHeartbeats 4000000 in
theorem eqFactS_any (w : World) (v v' : Value) (l l' : List AtomD) (h : RdAtomS w v l) (h' : RdAtomS w v' l') :
    Calls Tryz.prog 20 #[v, v'] w (GaveBool w (decide (l = l'))) := by
  obtain ⟨a, n, c, rfl, h⟩ := h
  obtain ⟨a', n', c', rfl, h'⟩ := h'
  obtain ⟨hl, hn, hm, hcell⟩ := h.at
  obtain ⟨hl', hn', hm', hcell'⟩ := h'.at
  unfold maxLen at hm hm'
  by_cases hne : n = n'
  · subst hne
    have HC := Lib.hid hcell
    have HC' := Lib.hid hcell'
    have HL := Lib.hid hl
    have HL' := Lib.hid hl'
    have hz := Lib.hid (fun w r r' v v' l l' a b => eqFact_any w r r' v v' l l' a b)
    clear h h' hcell hcell' hl hl'
    go_enter Tryz.func20, Tryz.ntmps20
    go_wp2_with fail
    go_loopw [5] (fun iv wr => ∃ i : Nat, i ≤ n ∧ iv = .int .i64 i ∧ Below w.heap.size w wr ∧ Hid (∀ (j : Nat) (d d' : AtomD), j < i → l[j]? = some d → l'[j]? = some d' → d = d')) (fun iv _ => n - (intOf iv).toNat)
    case atStart => exact ⟨0, by omega, rfl, Below.refl _ _, fun j d d' hj => by omega⟩
    case round =>
      obtain ⟨i, hi, rfl, hb, HE⟩ := hrel
      have HB := Lib.hid hb
      by_cases hlt : i < n
      · obtain ⟨b, off, rfl, hbw, hc⟩ := HC.out (by omega)
        obtain ⟨b', off', rfl, hbw', hc'⟩ := HC'.out (by omega)
        obtain ⟨d, hd⟩ : ∃ d, l[i]? = some d := ⟨l[i]'(by rw [HL.out]; exact hlt), List.getElem?_eq_getElem (by rw [HL.out]; exact hlt)⟩
        obtain ⟨d', hd'⟩ : ∃ d, l'[i]? = some d := ⟨l'[i]'(by rw [HL'.out]; exact hlt), List.getElem?_eq_getElem (by rw [HL'.out]; exact hlt)⟩
        obtain ⟨ea, em, ec, c0, c1, hdi, hints⟩ := atomAt (n := n) hc i d hd
        obtain ⟨ea', em', ec', c0', c1', hdi', hints'⟩ := atomAt (n := n) hc' i d' hd'
        have k0 := cell_regrown (w := wr) (cellk hb c0)
        have k1 := cell_regrown (w := wr) (cellk hb c1)
        have k0' := cell_regrown (w := wr) (cellk hb c0')
        have k1' := cell_regrown (w := wr) (cellk hb c1')
        have HD := Lib.hid hd
        have HD' := Lib.hid hd'
        have hi0 : (0 : Int) ≤ i := by omega
        have hi1 : (i : Int) < n := by omega
        have hcall := Lib.hid (fun dn os => hz.out (grow (redrawn wr dn) os) d.1 d'.1 (.slice ea em ec) (.slice ea' em' ec') d.2 d'.2 (hints.below (hb.trans ((below_regrown wr dn os).mono hb.size))) (hints'.below (hb.trans ((below_regrown wr dn os).mono hb.size))))
        clear hc hc' hbw hbw' hb hd hd' hdi hdi' hints hints' c0 c1 c0' c1'
        by_cases heq : d = d'
        · have HQ := Lib.hid heq
          have e1 : decide (d.1 = d'.1 ∧ d.2 = d'.2) = true := decide_eq_true ⟨by rw [heq], by rw [heq]⟩
          rw [e1] at hcall
          clear e1 heq
          generalize d.1 = r at *
          generalize d'.1 = r' at *
          go_wp2_with fail
          refine wp_region_quiet_below (by kernel_rfl) (by kernel_rfl) ?_
          repeat (any_goals (first | go_big_quiet_step ((go_at_call 71; exact Calls.regrown_of (hcall.out _ _))) | quiet_step ((go_at_call 71; exact Calls.regrown_of (hcall.out _ _)))))
          refine wpQuiet_nil ?_
          intro _ hw'
          obtain ⟨⟨dq, osq⟩, hw''⟩ := hw'
          subst hw''
          go_wp2_with fail
          refine ⟨⟨i + 1, by omega, by simp, bnext HB.out (below_regrown _ _ _), fun j x x' hj h5 h6 => ?_⟩, by simp [intOf]; omega⟩
          rcases Nat.lt_or_ge j i with h7 | h7
          · exact HE.out j x x' h7 h5 h6
          · obtain rfl : j = i := by omega
            rw [HD.out] at h5; rw [HD'.out] at h6
            cases h5; cases h6; exact HQ.out
        · have HQ : Hid (decide (l = l') = false) := decide_eq_false (fun e => heq (by rw [e] at HD; exact Option.some.inj (HD.out.symm.trans HD'.out)))
          have e1 : decide (d.1 = d'.1 ∧ d.2 = d'.2) = false := decide_eq_false (fun e => heq (Prod.ext e.1 e.2))
          rw [e1] at hcall
          clear e1 heq
          generalize d.1 = r at *
          generalize d'.1 = r' at *
          go_wp2_with fail
          refine wp_region_quiet_below (by kernel_rfl) (by kernel_rfl) ?_
          repeat (any_goals (first | go_big_quiet_step ((go_at_call 71; exact Calls.regrown_of (hcall.out _ _))) | quiet_step ((go_at_call 71; exact Calls.regrown_of (hcall.out _ _)))))
          refine wpQuiet_nil ?_
          intro _ hw'
          obtain ⟨⟨dq, osq⟩, hw''⟩ := hw'
          subst hw''
          go_wp2_with fail
          go_ret
          exact ⟨ret_b HQ.out.symm, bnext HB.out (below_regrown _ _ _)⟩
      · obtain rfl : i = n := by omega
        have HQ : Hid (decide (l = l') = true) := decide_eq_true (getElem_eq_of (by rw [HL.out, HL'.out]) (fun j x x' h5 h6 => HE.out j x x' (by rw [← HL.out]; exact (List.getElem?_eq_some_iff.1 h5).1) h5 h6))
        clear hb
        go_wp2_with fail
        go_ret
        exact ⟨ret_b HQ.out.symm, HB.out⟩
  · have HQ : Hid (decide (l = l') = false) := decide_eq_false (fun e => hne (by rw [← hl, ← hl', e]))
    have q : ((n : Int) != n') = true := by simp; omega
    clear h h' hcell hcell' hl hl' hne
    go_enter Tryz.func20, Tryz.ntmps20
    go_wp2_with fail
    go_ret
    exact ⟨ret_b HQ.out.symm, Below.refl _ _⟩
theorem eqFactSR (w : World) (v v' : Value) (d : List AtomD) (h : RdAtomS w v d) (h' : RdAtomS w v' d) :
    Calls Tryz.prog 20 #[v, v'] w (GaveBool w true) := by
  have := eqFactS_any w v v' d d h h'
  rwa [decide_eq_true rfl] at this
theorem info_Fact : (Tryz.prog.info? 83).map (fun i => (i.zero, i.size, i.bytes)) = some (some (.agg #[.int .i64 0, .slice none 0 0]), 2, 32) := by kernel_rfl
theorem zeroFacts {w w1 : World} {n : Nat} (h : BuiltC 83 2 w w1 (.slice (some ⟨w.heap.size, 0, none⟩) n n) n (madeCells #[.int .i64 0, .slice none 0 0] (n * 2)).toList) : RowO 2 COAtom w1 w.heap.size 0 (List.replicate n ((0, []) : AtomD)) (List.replicate n []) := by
  refine ⟨by simp, h.lt.2, fun t ht => ?_, fun j d hd => ?_⟩
  · rw [Nat.zero_add]; exact h.frozen t
  · have hj : j < n := by
      rcases Nat.lt_or_ge j n with h5 | h5
      · exact h5
      · rw [List.getElem?_eq_none (by simpa using h5)] at hd; cases hd
    rw [List.getElem?_replicate, if_pos hj] at hd
    cases hd
    refine ⟨[.int .i64 0, .slice none 0 0], rfl, fun e he => ?_, none, 0, 0, rfl, ⟨by decide, by decide⟩, Ints.nil _, .inl ⟨none, 0, rfl, ?_⟩⟩
    · rw [Nat.zero_add, h.cell _ (by omega), madeAtoms _ _ (by omega)]
      have : e = 0 ∨ e = 1 := by omega
      rcases this with rfl | rfl
      · rw [if_pos (by omega)]; rfl
      · rw [if_neg (by omega)]; rfl
    · rw [List.getD_eq_getElem?_getD, List.getElem?_replicate]; split <;> rfl
set_option maxHeartbeats 4000000 in
theorem toFactSO (w : World) (v : Value) (l : List AtomD) (h : RdAtomS w v l) (hs : sizeAtomS l ≤ 1048576) :
    Calls Tryz.prog 15 #[v] w (GaveO (fun w' v bs => ROAtomS w' v l bs) w) := by
  obtain ⟨a, n, c, rfl, h⟩ := h
  obtain ⟨hl, hn, hm, hcell⟩ := h.at
  have hnl : n ≤ 1048576 := by unfold sizeAtomS at hs; omega
  unfold maxLen at hm
  have HC := Lib.hid hcell
  have HL := Lib.hid hl
  have HSZ := Lib.hid hs
  have hz := Lib.hid (fun w r v l a b => toFact_any w r v l a b)
  clear h hcell hl hs
  go_enter Tryz.func15, Tryz.ntmps15
  go_wp2_with (at_make; refine wpList_make_C rfl (.tmp 6) (.tmp 6) 40 rfl 83 (.agg #[.int .i64 0, .slice none 0 0]) 2 32 Tryz.underlying40 info_Fact (by decide) (by decide) (Below.refl _ w) .i64 .i64 n rfl rfl (by omega) ?_)
  intro w1 hb1
  have HB1 := Lib.hid hb1
  have hrow : RowO 2 COAtom w1 w.heap.size 0 (List.replicate n ((0, []) : AtomD)) (List.replicate n []) := zeroFacts hb1
  have HR1 := Lib.hid hrow
  clear hb1 hrow
  go_wp2_with fail
  go_loopw [4] (fun iv wr => ∃ (i : Nat) (bss : List (List Nat)), i ≤ n ∧ iv = .int .i64 i ∧ RowO 2 COAtom wr w.heap.size 0 (l.take i ++ List.replicate (n - i) ((0, []) : AtomD)) bss ∧ Made w wr bss ∧ Hid (∀ j, i ≤ j → bss.getD j [] = []) ∧ Below w.heap.size w wr) (fun iv _ => n - (intOf iv).toNat)
  case atStart =>
    exact ⟨0, List.replicate n [], by omega, rfl, by simpa using HR1.out, ⟨by simp, by simp⟩, fun j _ => by simp [List.getD, List.getElem?_replicate]; split <;> rfl, HB1.out.2⟩
  case round =>
    obtain ⟨i, bss, hi, rfl, hrow, hmade, HE, hb⟩ := hrel
    have HB := Lib.hid hb
    have HROW := Lib.hid hrow
    have HMADE := Lib.hid hmade
    by_cases hlt : i < n
    · obtain ⟨b, off, rfl, hbw, hc⟩ := HC.out (by omega)
      have hil : i < l.length := by rw [HL.out]; exact hlt
      obtain ⟨d, hd⟩ : ∃ d, l[i]? = some d := ⟨l[i]'hil, List.getElem?_eq_getElem hil⟩
      obtain ⟨ea, em, ec, c0, c1, hdi, hints⟩ := atomAt (n := n) hc i d hd
      replace c0 := cellk hb c0
      replace c1 := cellk hb c1
      have hi0 : (0 : Int) ≤ i := by omega
      have hi1 : (i : Int) < n := by omega
      have hdl : d.2.length ≤ 1048576 := by
        have h5 := sumArgs_take hd; have h6 := sumArgs_le l (i + 1); have := HSZ.out; unfold sizeAtomS at this; omega
      have hcall := Lib.hid (hz.out wr d.1 (.slice ea em ec) d.2 (hints.below hb) hdl)
      have HD := Lib.hid hd
      have HDI := Lib.hid hdi
      clear hc hbw hb hd hdi hints hdl hrow hmade
      generalize hr : d.1 = r at *
      have HRR := Lib.hid hr
      clear hr
      go_wp2_with fail
      refine hcall.out.mono ?_
      rintro e w2 ⟨v2, bs2, rfl, ⟨a2, n2, c2, rfl, ho2⟩, hfr2, hb2⟩
      have hrow2 := HROW.out.keep hb2.size (hb2.block _ HROW.out.2.1) (fun j cs d _ h => h.below hb2)
      have hlen : (l.take i ++ List.replicate (n - i) ((0, []) : AtomD)).length = n := by have := HL.out; simp; omega
      have hgi : (l.take i ++ List.replicate (n - i) ((0, []) : AtomD))[i]? = some (0, []) := by
        rw [List.getElem?_append_right (by simp; omega)]
        simp [List.getElem?_replicate]; omega
      obtain ⟨cs, h1, h2, xa, xn, xc, rfl, _, _⟩ := hrow2.2.2.2 i _ hgi
      have q0 : w2.cell? ⟨w.heap.size, i * 2, none⟩ = some (.int .i64 0) := by have := h2 0 (by omega); simpa using this
      have q1 : w2.cell? ⟨w.heap.size, i * 2 + 1, none⟩ = some (.slice xa xn xc) := by have := h2 1 (by omega); simpa using this
      have f0 : w2.frozen? ⟨w.heap.size, i * 2, none⟩ = false := by have := hrow2.2.2.1 (i * 2) (by rw [hlen]; omega); simpa using this
      have f1 : w2.frozen? ⟨w.heap.size, i * 2 + 1, none⟩ = false := by have := hrow2.2.2.1 (i * 2 + 1) (by rw [hlen]; omega); simpa using this
      have HROW2 := Lib.hid hrow2
      have HO2 := Lib.hid ho2
      have HF2 := Lib.hid hfr2
      have HB2 := Lib.hid (bnext HB.out hb2)
      have HS2 := Lib.hid hb2.size
      have HLEN := Lib.hid hlen
      have Q0 := Lib.hid q0
      have Q1 := Lib.hid q1
      clear hb2 hrow2 hlen hgi h1 h2 ho2 hfr2
      go_wp2_with fail
      have hW := atomLaid (i := i) HROW2.out (by rw [HLEN.out]; exact hlt) (fun x hx => (HMADE.out.2 x hx).1) HDI.out HO2.out (fun x hx => Nat.lt_of_lt_of_le HROW.out.2.1 (HF2.out.lo x hx))
      have hlb : i < bss.length := by rw [HROW.out.1, HLEN.out]; exact hlt
      rw [take_set HL.out hlt (by rw [HD.out]; congr 1; exact Prod.ext HRR.out rfl)] at hW
      refine ⟨⟨i + 1, bss.set i bs2, by omega, by simp, hW, ?_, fun j hj => ?_, (HB2.out.setCell (by simp) _).setCell (by simp) _⟩, by simp [intOf]; omega⟩
      · exact HMADE.out.set hlb (HE.out i (Nat.le_refl _)) HROW.out.2.1 (HF2.out.wide (Nat.le_refl _) (by simp [World.setCell])) (by simp [World.setCell]; exact HS2.out)
      · rw [List.getD_eq_getElem?_getD, List.getElem?_set_ne (by omega), ← List.getD_eq_getElem?_getD]
        exact HE.out j (by omega)
    · obtain rfl : i = n := by omega
      have hW := HROW.out
      rw [List.take_of_length_le (by rw [HL.out]; exact Nat.le_refl _), Nat.sub_self, List.replicate_zero, List.append_nil] at hW
      have HW := Lib.hid hW
      clear hb hrow hmade hW
      go_wp2_with fail
      go_ret
      by_cases h0 : i = 0
      · subst h0
        have hl0 : l = [] := List.eq_nil_of_length_eq_zero HL.out
        exact ⟨_, [], rfl, ⟨_, _, _, rfl, .inl ⟨_, _, rfl, Nat.zero_le _, hl0, rfl⟩⟩, ⟨by simp, fun b hb => by simp at hb⟩, HB.out⟩
      · refine ⟨_, w.heap.size :: bss.flatten, rfl, ⟨_, _, _, rfl, .inr ⟨_, _, _, _, bss, rfl, HL.out, by omega, Nat.le_refl _, by unfold maxLen; omega, rfl, HW.out⟩⟩, ⟨?_, fun b hb => ?_⟩, HB.out⟩
        · rw [List.nodup_cons]
          exact ⟨fun hm => by have := (HMADE.out.2 _ hm).1; omega, HMADE.out.1⟩
        · rcases List.mem_cons.1 hb with rfl | hb
          · exact ⟨Nat.le_refl _, HW.out.2.1⟩
          · have := HMADE.out.2 b hb; omega
theorem toFactSR (w : World) (v : Value) (d : List AtomD) (h : RdAtomS w v d) (hl : sizeAtomS d ≤ 1048576) :
    Calls Tryz.prog 15 #[v] w (GaveD (fun w' v => RdAtomS w' v d) w) :=
  (toFactSO w v d h hl).mono fun e w' ⟨v, bs, he, hr, _, hb⟩ => ⟨v, he, hr.rd, hb⟩
set_option maxHeartbeats 4000000 in
theorem markFactS_row (w : World) (b off n cap : Nat) (l : List AtomD) (bss : List (List Nat)) (k : Int) (hr : RowO 2 COAtom w b off l bss) (hl : l.length = n) (hnd : (b :: bss.flatten).Nodup) (hm : mAtomS l ≤ 1048576) (h0 : 0 ≤ k) (h1 : k ≤ 4503599625273344) :
    Calls Tryz.prog 23 #[.slice (some ⟨b, off, none⟩) n cap, .int .i64 k] w
      (GaveMark (k + mAtomS l) (b :: bss.flatten) (fun w' => RowO 2 COAtom w' b off (mkAtomS k l) bss) w) := by
  have hnl : n ≤ 1048576 := by rw [← hl]; exact Nat.le_trans (len_le_mAtomS l) hm
  have HR := Lib.hid hr
  have HL := Lib.hid hl
  have HND := Lib.hid hnd
  have HM := Lib.hid hm
  have hz := Lib.hid (fun w v l bs k a b c d => markIntS_any w v l bs k a b c d)
  clear hr hl hnd hm
  go_enter Tryz.func23, Tryz.ntmps23
  go_wp2_with fail
  go_loopw [1, 5] (fun kv iv wr => ∃ i : Nat, i ≤ n ∧ iv = .int .i64 i ∧ kv = .int .i64 (k + (mAtomS (l.take i) : Int)) ∧ OnlyAt (b :: bss.flatten) w wr ∧ RowO 2 COAtom wr b off (mkAtomS k (l.take i) ++ l.drop i) bss) (fun _ iv _ => n - (intOf iv).toNat)
  case atStart => exact ⟨0, by omega, rfl, by simp [mAtomS], OnlyAt.refl _ _, by simpa [mkAtomS] using HR.out⟩
  case round =>
    obtain ⟨i, hi, rfl, rfl, ho, hrow⟩ := hrel
    have HO := Lib.hid ho
    have HROW := Lib.hid hrow
    clear ho
    by_cases hil : i < n
    · have hll : i < l.length := by rw [HL.out]; exact hil
      obtain ⟨d, hd⟩ : ∃ d, l[i]? = some d := ⟨l[i]'hll, List.getElem?_eq_getElem hll⟩
      have hd2 : (mkAtomS k (l.take i) ++ l.drop i)[i]? = some d := by
        rw [List.getElem?_append_right (by rw [mkAtomS_length, List.length_take]; omega), mkAtomS_length, List.length_take, Nat.min_eq_left (by omega), Nat.sub_self, List.getElem?_drop]
        simpa using hd
      obtain ⟨cs, k1, k2, a, m, c, rfl, hdi, hO⟩ := hrow.2.2.2 i d hd2
      have q0 : wr.cell? ⟨b, off + i * 2, none⟩ = some (.int .i64 d.1) := by have := k2 0 (by omega); simpa using this
      have q1 : wr.cell? ⟨b, off + i * 2 + 1, none⟩ = some (.slice a m c) := by have := k2 1 (by omega); rw [← Nat.add_assoc] at this; simpa using this
      have hlen2 : (mkAtomS k (l.take i) ++ l.drop i).length = n := by rw [List.length_append, mkAtomS_length, List.length_take, List.length_drop, HL.out]; omega
      have f0 : wr.frozen? ⟨b, off + i * 2, none⟩ = false := hrow.2.2.1 (i * 2) (by rw [hlen2]; omega)
      have hMT := mAtomS_take hd
      have hle := mAtomS_take_le l (i + 1)
      have hmm := HM.out
      have hbn : b ∉ bss.getD i [] := fun hm => (List.nodup_cons.1 HND.out).1 (getD_mem_flatten hm)
      have hcall := Lib.hid (fun kk a b => hz.out (wr.setCell ⟨b, off + i * 2, none⟩ (.int .i64 kk)) (.slice a m c) d.2 (bss.getD i []) (kk + 1))
      have HO2 : Hid (∀ kk, OInts (wr.setCell ⟨b, off + i * 2, none⟩ (.int .i64 kk)) (.slice a m c) d.2 (bss.getD i [])) := fun kk => hO.onlyAt (OnlyAt.setCell _ _ _ _) (fun x hx hm => hbn (by simp at hm; subst hm; exact hx))
      have HD := Lib.hid hd
      have Q1 := Lib.hid q1
      have HLEN := Lib.hid hlen2
      have hi0 : (0 : Int) ≤ i := by omega
      have hi1 : (i : Int) < n := by omega
      have hsl : mAtomS (l.take i) ≤ 1048576 := by omega
      have hdl : d.2.length ≤ 1048576 := by omega
      have HMT := Lib.hid hMT
      clear hrow hd hd2 k1 k2 hdi hO hlen2 hMT hle hmm hbn hcall
      obtain ⟨kk, hkk⟩ : ∃ kk : Int, k + (mAtomS (l.take i) : Int) = kk := ⟨_, rfl⟩
      have hk0 : 0 ≤ kk := by omega
      have hk1 : kk ≤ 4503599626321920 := by omega
      rw [hkk]
      have HKK := Lib.hid hkk
      clear hkk
      generalize hr : d.1 = r at *
      clear hr
      go_wp2_with fail
      refine (hz.out _ _ d.2 (bss.getD i []) _ (HO2.out kk) hdl (by omega) (by omega)).mono ?_
      rintro e w2 ⟨rfl, hr2, ho2⟩
      have hW := atomMarked (i := i) HROW.out (by rw [HLEN.out]; exact hil) HND.out rfl (by unfold inI; omega) hr2 ho2 Q1.out
      rw [← HKK.out, mark_set k HD.out] at hW
      have HW := Lib.hid hW
      have HO3 : Hid (OnlyAt (b :: bss.flatten) w w2) := HO.out.same (((OnlyAt.setCell wr b _ _).wider (fun x hx => by simp at hx; subst hx; simp)).same (ho2.wider (fun x hx => by simp only [List.mem_cons]; right; exact getD_mem_flatten hx)))
      clear hr2 ho2 hW
      go_wp2_with fail
      exact ⟨⟨i + 1, by omega, by simp, by rw [HMT.out, ← HKK.out]; congr 1; omega, HO3.out, HW.out⟩, by simp [intOf]; omega⟩
    · obtain rfl : i = n := by omega
      have hW := HROW.out
      rw [List.take_of_length_le (by rw [HL.out]; exact Nat.le_refl _), List.drop_eq_nil_of_le (by rw [HL.out]; exact Nat.le_refl _), List.append_nil] at hW
      have HW := Lib.hid hW
      have HT : Hid (l.take i = l) := List.take_of_length_le (by rw [HL.out]; exact Nat.le_refl _)
      clear hW hrow
      go_wp2_with fail
      go_ret
      exact ⟨ret_n (by rw [HT.out]), HW.out, HO.out⟩
set_option maxHeartbeats 1000000 in
theorem markFactS_nil (w : World) (a : Option Addr) (cap : Nat) (k : Int) (h0 : 0 ≤ k) (h1 : k ≤ 4503599627370496) :
    Calls Tryz.prog 23 #[.slice a 0 cap, .int .i64 k] w fun e w' => e = .returned (.int .i64 k) ∧ w = w' := by
  go_enter Tryz.func23, Tryz.ntmps23
  go_wp2_with fail
  refine wp_loop_rounds 1 ?_
  rw [rounds_succ]
  go_wp2_with fail
  go_ret
  exact ⟨rfl, rfl⟩
theorem markFactSR (w : World) (v : Value) (d : List AtomD) (bs : List Nat) (k : Int) (h : ROAtomS w v d bs) (hnd : bs.Nodup) (hm : mAtomS d ≤ 1048576) (h0 : 0 ≤ k) (h1 : k ≤ 4503599625273344) :
    Calls Tryz.prog 23 #[v, .int .i64 k] w (GaveMark (k + mAtomS d) bs (fun w' => ROAtomS w' v (mkAtomS k d) bs) w) := by
  obtain ⟨a, n, c, rfl, h⟩ := h
  rcases h with ⟨a', c', e, hc, rfl, rfl⟩ | ⟨b, off, n', cap, bss, e, h2, h3, h4, h5, rfl, h6⟩
  · cases e
    refine (markFactS_nil w _ _ k h0 (by omega)).mono ?_
    rintro e w' ⟨rfl, rfl⟩
    exact ⟨ret_n (by simp [mAtomS]), ⟨_, _, _, rfl, .inl ⟨_, _, rfl, hc, rfl, rfl⟩⟩, OnlyAt.refl _ _⟩
  · cases e
    refine (markFactS_row w b off n c d bss k h6 h2 hnd hm h0 h1).mono ?_
    rintro e w' ⟨rfl, hr, ho⟩
    exact ⟨rfl, ⟨_, _, _, rfl, .inr ⟨b, off, n, c, bss, rfl, by rw [mkAtomS_length]; exact h2, h3, h4, h5, rfl, hr⟩⟩, ho⟩
set_option maxHeartbeats 4000000 in
theorem heldFactSR (w : World) (v : Value) (l : List AtomD) (k : Int) (h : RdAtomS w v (mkAtomS k l)) (hm : mAtomS l ≤ 1048576) (h0 : 0 ≤ k) (h1 : k ≤ 4503599625273344) :
    Calls Tryz.prog 37 #[v, .int .i64 k] w (GaveInt w (k + mAtomS l)) := by
  obtain ⟨a, n, c, rfl, h⟩ := h
  obtain ⟨hl, hn, hmm, hcell⟩ := h.at
  rw [mkAtomS_length] at hl
  have hnl : n ≤ 1048576 := by rw [← hl]; exact Nat.le_trans (len_le_mAtomS l) hm
  have HC := Lib.hid hcell
  have HL := Lib.hid hl
  have HM := Lib.hid hm
  have hz := Lib.hid (fun w v l k a b c d e => heldIntS_any w v l k a b c d e)
  unfold maxLen at hmm
  clear h hcell hl hm
  go_enter Tryz.func37, Tryz.ntmps37
  go_wp2_with fail
  go_loopw [1, 5] (fun kv iv wr => ∃ i : Nat, i ≤ n ∧ iv = .int .i64 i ∧ kv = .int .i64 (k + (mAtomS (l.take i) : Int)) ∧ Below w.heap.size w wr) (fun _ iv _ => n - (intOf iv).toNat)
  case atStart => exact ⟨0, by omega, rfl, by simp [mAtomS], Below.refl _ _⟩
  case round =>
    obtain ⟨i, hi, rfl, rfl, hb⟩ := hrel
    have HB := Lib.hid hb
    by_cases hil : i < n
    · have hll : i < l.length := by rw [HL.out]; exact hil
      obtain ⟨b, off, rfl, hbw, hc⟩ := HC.out (by omega)
      obtain ⟨d, hd⟩ : ∃ d, l[i]? = some d := ⟨l[i]'hll, List.getElem?_eq_getElem hll⟩
      obtain ⟨ea, em, ec, c0, c1, hdi, hints⟩ := atomAt (n := n) hc i _ (mkAtomS_get k hd)
      replace c0 := cellk hb c0
      replace c1 := cellk hb c1
      have HV := Lib.hid (hints.below hb)
      have hMT := mAtomS_take hd
      have hle := mAtomS_take_le l (i + 1)
      have hmm := HM.out
      have hi0 : (0 : Int) ≤ i := by omega
      have hi1 : (i : Int) < n := by omega
      have hsl : mAtomS (l.take i) ≤ 1048576 := by omega
      have hdl : d.2.length ≤ 1048576 := by omega
      have HMT := Lib.hid hMT
      obtain ⟨kk, hkk⟩ : ∃ kk : Int, k + (mAtomS (l.take i) : Int) = kk := ⟨_, rfl⟩
      have hk0 : 0 ≤ kk := by omega
      have hk1 : kk ≤ 4503599626321920 := by omega
      rw [hkk] at c0 HV ⊢
      have HKK := Lib.hid hkk
      have hcall := Lib.hid (hz.out wr (.slice ea em ec) (iota (kk + 1) d.2.length) (kk + 1) HV.out (by rw [iota_length]) (by rw [iota_length]; exact hdl) (by omega) (by omega))
      rw [iota_length] at hcall
      clear hc hbw hb hd hints hdi hMT hle hmm hkk HV
      go_wp2_with fail
      refine hcall.out.mono ?_
      rintro e w2 ⟨rfl, hb⟩
      have HB2 := Lib.hid (bnext HB.out hb)
      clear hb
      go_wp2_with fail
      exact ⟨⟨i + 1, by omega, by simp, by rw [HMT.out, ← HKK.out]; congr 1; omega, HB2.out⟩, by simp [intOf]; omega⟩
    · obtain rfl : i = n := by omega
      have HT : Hid (l.take i = l) := List.take_of_length_le (by rw [HL.out]; exact Nat.le_refl _)
      clear hb
      go_wp2_with fail
      go_ret
      exact ⟨ret_n (by rw [HT.out]), HB.out⟩
section
variable {H : Type} {enc : TypeId × Value → H} {w : World} {spare : Nat → Bool} {held : Bool}
set_option maxRecDepth 100000 in
theorem cs_Fact {fuel : Nat} {cs : List Value} {x : DataW H × List MemPlace} (h : DataW.trod enc Tryz.prog w 0 spare held fuel 80 cs = some x) :
    ∃ a n c, ∃ d : Int × List Int, cs = [.int .i64 d.1, .slice a n c] ∧ inI d.1 ∧ Ints w (.slice a n c) d.2 := by
  obtain ⟨xs, n, _, _, hcl, hlen, hg⟩ := DataW.trod_struct Tryz.underlying80 h
  have hcl' : cs.length = 2 := hcl.trans (by kernel_rfl)
  match cs, hcl', xs, hlen with
  | [c0, c1], _, [y0, y1], _ =>
    have g0 := hg 0 _ rfl
    have g1 := hg 1 _ rfl
    obtain ⟨z, hz, _, hw⟩ := DataW.trod_int Tryz.underlying3 (show DataW.trod enc Tryz.prog w 0 spare held n 3 [c0] = some y0 from g0)
    obtain ⟨a, n', c, l, hc, hi⟩ := ints_of_trod Tryz.underlying22 Tryz.underlying3 (by kernel_rfl) (show DataW.trod enc Tryz.prog w 0 spare held n 22 [c1] = some y1 from g1)
    refine ⟨a, n', c, (z, l), ?_, wf_inI hw, hi⟩
    simp at hz hc
    rw [hz, hc]
end
section
variable {H : Type} {enc : TypeId × Value → H} {w : World} {spare : Nat → Bool} {held : Bool}
set_option maxRecDepth 100000 in
theorem open_RdFact {r : Reach} {b0 : Nat} {v : Value} {dd : DataW H} {p : List MemPlace} (hv : Value.okWide Tryz.prog w r b0 80 v) (h : DataW.Trod enc Tryz.prog w 0 spare held 80 v dd p) : ∃ d, RdAtom w v d := by
  obtain ⟨⟨cs⟩, rfl, hsz⟩ := okWide_struct Tryz.underlying80 hv
  obtain ⟨fuel, hf⟩ := h
  obtain ⟨a, n, c, d, rfl, hr, hi⟩ := cs_Fact hf
  exact ⟨d, a, n, c, rfl, hr, hi⟩
end

section
variable {H : Type} {enc : TypeId × Value → H} {w : World} {spare : Nat → Bool} {held : Bool}
set_option maxRecDepth 100000 in
theorem open_RdFactS {r : Reach} {b0 : Nat} {v : Value} {dd : DataW H} {p : List MemPlace} (hv : Value.okWide Tryz.prog w r b0 28 v) (h : DataW.Trod enc Tryz.prog w 0 spare held 28 v dd p) : ∃ d, RdFactS w v d := by
  obtain ⟨a, n, c, rfl⟩ := okWide_slice Tryz.underlying28 hv
  obtain ⟨fuel, hf⟩ := h
  obtain ⟨a', n', c', l, e, hi⟩ := rdSl_of_trod (C := CsAtom) (k := 2) Tryz.underlying28 (by kernel_rfl) (by decide) (fun _ _ _ hh => by obtain ⟨a, n, c, d, h1, h2, h3⟩ := cs_Fact hh; exact ⟨d, a, n, c, h1, h2, h3⟩) hf
  simp [Value.cells] at e
  obtain ⟨rfl, rfl, rfl⟩ := e
  exact ⟨l, a, n, c, rfl, hi⟩
end
end Go.Proofs.YtfojllkkbdpfkaaGreat
