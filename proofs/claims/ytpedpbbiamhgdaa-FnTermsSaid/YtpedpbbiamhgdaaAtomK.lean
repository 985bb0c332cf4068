/- Merged of Satoms, BuildA, QInv, OutInv, PartA. -/
import Derived.Test.YtpedpbbiamhgdaaBase
import Derived.Test.YtpedpbbiamhgdaaLawK
import Derived.Lib.QuietBelow
/-! Satoms -/
namespace Go.Proofs.Ytpedpbbiamhgdaa
open Go Go.Sort Go.RowKit
set_option linter.unusedVariables false

abbrev AtomD := Int × List Int
def CsAtom (w : World) (cs : List Value) (d : AtomD) : Prop := ∃ a n c, cs = [.int .i64 d.1, .slice a n c] ∧ inI d.1 ∧ Ints w (.slice a n c) d.2
def COAtom (w : World) (cs : List Value) (d : AtomD) (bs : List Nat) : Prop := ∃ a n c, cs = [.int .i64 d.1, .slice a n c] ∧ inI d.1 ∧ OInts w (.slice a n c) d.2 bs
theorem CsAtom.below {w w' : World} {cs : List Value} {d : AtomD} (h : CsAtom w cs d) (hb : Below w.heap.size w w') : CsAtom w' cs d := by
  obtain ⟨a, n, c, rfl, hi, h⟩ := h; exact ⟨a, n, c, rfl, hi, h.below hb⟩
theorem COAtom.below {w w' : World} {cs : List Value} {d : AtomD} {bs : List Nat} (h : COAtom w cs d bs) (hb : Below w.heap.size w w') : COAtom w' cs d bs := by
  obtain ⟨a, n, c, rfl, hi, h⟩ := h; exact ⟨a, n, c, rfl, hi, h.below hb⟩
theorem COAtom.onlyAt {w w' : World} {cs : List Value} {d : AtomD} {bs bs' : List Nat} (hn : ∀ b ∈ bs, b ∉ bs') (ko : OnlyAt bs' w w') (h : COAtom w cs d bs) : COAtom w' cs d bs := by
  obtain ⟨a, n, c, rfl, hi, h⟩ := h; exact ⟨a, n, c, rfl, hi, h.onlyAt ko hn⟩
theorem COAtom.rd {w : World} {cs : List Value} {d : AtomD} {bs : List Nat} (h : COAtom w cs d bs) : CsAtom w cs d := by
  obtain ⟨a, n, c, rfl, hi, h⟩ := h; exact ⟨a, n, c, rfl, hi, h.1⟩
def RdAtomS (w : World) (v : Value) (d : List AtomD) : Prop := ∃ a n c, v = .slice a n c ∧ RdSl 2 CsAtom w (.slice a n c) d
def ROAtomS (w : World) (v : Value) (d : List AtomD) (bs : List Nat) : Prop := ∃ a n c, v = .slice a n c ∧ ROSl 2 COAtom w (.slice a n c) d bs
theorem RdAtomS.below {w w' : World} {v : Value} {d : List AtomD} (h : RdAtomS w v d) (hb : Below w.heap.size w w') : RdAtomS w' v d := by
  obtain ⟨a, n, c, rfl, h⟩ := h; exact ⟨a, n, c, rfl, RdSl.below h (fun _ _ h => h.below hb) hb⟩
theorem ROAtomS.below {w w' : World} {v : Value} {d : List AtomD} {bs : List Nat} (h : ROAtomS w v d bs) (hb : Below w.heap.size w w') : ROAtomS w' v d bs := by
  obtain ⟨a, n, c, rfl, h⟩ := h; exact ⟨a, n, c, rfl, ROSl.below h hb (fun _ _ _ h => h.below hb)⟩
theorem ROAtomS.onlyAt {w w' : World} {v : Value} {d : List AtomD} {bs bs' : List Nat} (h : ROAtomS w v d bs) (ko : OnlyAt bs' w w') (hn : ∀ b ∈ bs, b ∉ bs') : ROAtomS w' v d bs := by
  obtain ⟨a, n, c, rfl, h⟩ := h; exact ⟨a, n, c, rfl, ROSl.onlyAt h ko hn (fun _ _ _ hn h => h.onlyAt hn ko)⟩
theorem ROAtomS.rd {w : World} {v : Value} {d : List AtomD} {bs : List Nat} (h : ROAtomS w v d bs) : RdAtomS w v d := by
  obtain ⟨a, n, c, rfl, h⟩ := h; exact ⟨a, n, c, rfl, ROSl.rd h (fun _ _ _ h => h.rd)⟩

def sumArgs (l : List AtomD) : Nat := (l.map (fun d => d.2.length)).sum
def sizeAtomS (l : List AtomD) : Nat := l.length + sumArgs l
theorem sumArgs_take {l : List AtomD} {i : Nat} {d : AtomD} (h : l[i]? = some d) : sumArgs (l.take (i + 1)) = sumArgs (l.take i) + d.2.length := by
  obtain ⟨hi, rfl⟩ := List.getElem?_eq_some_iff.1 h
  unfold sumArgs
  rw [List.take_succ_eq_append_getElem hi, List.map_append, List.sum_append]
  simp
theorem sumArgs_le (l : List AtomD) (i : Nat) : sumArgs (l.take i) ≤ sumArgs l := by
  induction l generalizing i with
  | nil => simp [sumArgs]
  | cons a l ih =>
    cases i with
    | zero => simp [sumArgs]
    | succ i => have := ih i; simp only [sumArgs, List.take_succ_cons, List.map_cons, List.sum_cons] at this ⊢; omega

/-- Element i of a read slice of atoms: its cells. -/
theorem atomAt {w : World} {b off n : Nat} {l : List AtomD} (hc : ∀ j d, l[j]? = some d → ∃ cs, cs.length = 2 ∧ (∀ i, i < 2 → w.cell? ⟨b, off + (j * 2 + i), none⟩ = cs[i]?) ∧ CsAtom w cs d) (i : Nat) (d : AtomD) (h : l[i]? = some d) :
    ∃ a m c, w.cell? ⟨b, off + i * 2, none⟩ = some (.int .i64 d.1) ∧ w.cell? ⟨b, off + i * 2 + 1, none⟩ = some (.slice a m c) ∧ inI d.1 ∧ Ints w (.slice a m c) d.2 := by
  obtain ⟨cs, h1, h2, a, m, c, rfl, h3, h4⟩ := hc i d h
  refine ⟨a, m, c, ?_, ?_, h3, h4⟩
  · have := h2 0 (by omega); simpa using this
  · have := h2 1 (by omega); rw [← Nat.add_assoc] at this; simpa using this

set_option maxHeartbeats 2000000 in
theorem szAtomSR (w : World) (v : Value) (l : List AtomD) (left : Int) (h : RdAtomS w v l) (h0 : 0 ≤ left) (h1 : left ≤ 1048576) :
    Calls Try.prog 72 #[v, .int .i64 left] w (GaveInt w (szOf left (sizeAtomS l))) := by
  obtain ⟨a, n, c, rfl, h⟩ := h
  obtain ⟨hl, hn, hm, hcell⟩ := h.at
  unfold maxLen at hm
  have HC := Lib.hid hcell
  have HL := Lib.hid hl
  have hz := Lib.hid (fun w r v l left a b c => szAtom_any w r v l left a b c)
  clear h hcell hl
  by_cases hneg : left - (n : Int) < 0
  · have HQ : Hid (szOf left (sizeAtomS l) = -1) := szOf_no (by have := HL.out; unfold sizeAtomS; omega)
    go_enter Try.func72, Try.ntmps72
    go_wp2_with fail
    go_ret
    exact ⟨ret_n HQ.out.symm, Below.refl _ _⟩
  · have q0 : decide (left - (n : Int) < 0) = false := decide_eq_false hneg
    have hpos : 0 ≤ left - (n : Int) := by omega
    clear hneg
    go_enter Try.func72, Try.ntmps72
    go_wp2_with fail
    go_loopw [1, 5] (fun lv iv wr => ∃ i : Nat, i ≤ n ∧ iv = .int .i64 i ∧ lv = .int .i64 (left - n - (sumArgs (l.take i) : Int)) ∧ 0 ≤ left - (n : Int) - (sumArgs (l.take i) : Int) ∧ Below w.heap.size w wr) (fun _ iv _ => n - (intOf iv).toNat)
    case atStart => exact ⟨0, by omega, rfl, by simp [sumArgs], by simpa [sumArgs] using hpos, Below.refl _ _⟩
    case round =>
      obtain ⟨i, hi, rfl, rfl, hnn, hb⟩ := hrel
      have HB := Lib.hid hb
      by_cases hlt : i < n
      · obtain ⟨b, off, rfl, hbw, hc⟩ := HC.out (by omega)
        obtain ⟨d, hd⟩ : ∃ d, l[i]? = some d := ⟨l[i]'(by rw [HL.out]; exact hlt), List.getElem?_eq_getElem (by rw [HL.out]; exact hlt)⟩
        obtain ⟨a', m', c', c0, c1, hdi, hints⟩ := atomAt (n := n) hc i d hd
        have HS := Lib.hid (sumArgs_take hd)
        have HT := Lib.hid (sumArgs_le l (i + 1))
        replace c0 := cellk hb c0
        replace c1 := cellk hb c1
        have HV := Lib.hid (hints.below hb)
        have hi0 : (0 : Int) ≤ i := by omega
        have hi1 : (i : Int) < n := by omega
        have hcall := Lib.hid (hz.out wr d.1 (.slice a' m' c') d.2 (left - n - (sumArgs (l.take i) : Int)) HV.out hnn (by omega))
        clear hc hbw hb hd hints hdi
        by_cases hov : left - n - (sumArgs (l.take i) : Int) - (d.2.length : Int) < 0
        · have HQ : Hid (szOf left (sizeAtomS l) = -1) := szOf_no (by have := HL.out; have := HS.out; have := HT.out; unfold sizeAtomS; omega)
          rw [szOf_no (by omega)] at hcall
          generalize sumArgs (l.take i) = s at *
          generalize d.1 = r at *
          clear hov HS HT HV
          go_wp2_with fail
          refine hcall.out.mono ?_
          rintro e w2 ⟨rfl, hb⟩
          have HB2 := Lib.hid (bnext HB.out hb)
          clear hb
          go_wp2_with fail
          go_ret
          exact ⟨ret_n HQ.out.symm, HB2.out⟩
        · rw [szOf_ok (by omega)] at hcall
          have hov2 : 0 ≤ left - n - (sumArgs (l.take i) : Int) - (d.2.length : Int) := by omega
          generalize sumArgs (l.take i) = s at *
          generalize d.2.length = dl at *
          generalize d.1 = r at *
          clear hov HT HV
          go_wp2_with fail
          refine hcall.out.mono ?_
          rintro e w2 ⟨rfl, hb⟩
          have HB2 := Lib.hid (bnext HB.out hb)
          clear hb
          go_wp2_with fail
          exact ⟨⟨i + 1, by omega, by simp, by rw [HS.out]; congr 1; omega, by rw [HS.out]; omega, HB2.out⟩, by simp [intOf]; omega⟩
      · obtain rfl : i = n := by omega
        have HQ : Hid (left - i - (sumArgs (l.take i) : Int) = szOf left (sizeAtomS l)) := by
          have := HL.out
          unfold Hid
          rw [List.take_of_length_le (by omega)] at hnn ⊢
          rw [szOf_ok (by unfold sizeAtomS; omega)]; unfold sizeAtomS; omega
        clear hb
        generalize sumArgs (l.take i) = s at *
        go_wp2_with fail
        go_ret
        exact ⟨ret_n HQ.out, HB.out⟩

theorem getElem_eq_of {l l' : List AtomD} (h : l.length = l'.length) (hj : ∀ (j : Nat) (d d' : AtomD), l[j]? = some d → l'[j]? = some d' → d = d') : l = l' := by
  refine List.ext_getElem h fun j h1 h2 => ?_
  exact hj j _ _ (List.getElem?_eq_getElem h1) (List.getElem?_eq_getElem h2)

set_option maxHeartbeats 4000000 in
theorem eqAtomS_any (w : World) (v v' : Value) (l l' : List AtomD) (h : RdAtomS w v l) (h' : RdAtomS w v' l') :
    Calls Try.prog 76 #[v, v'] w (GaveBool w (decide (l = l'))) := by
  obtain ⟨a, n, c, rfl, h⟩ := h
  obtain ⟨a', n', c', rfl, h'⟩ := h'
  obtain ⟨hl, hn, hm, hcell⟩ := h.at
  obtain ⟨hl', hn', hm', hcell'⟩ := h'.at
  unfold maxLen at hm hm'
  by_cases hne : n = n'
  · subst hne
    have HC := Lib.hid hcell
    have HC' := Lib.hid hcell'
    have HL := Lib.hid hl
    have HL' := Lib.hid hl'
    have hz := Lib.hid (fun w r r' v v' l l' a b => eqAtom_any w r r' v v' l l' a b)
    clear h h' hcell hcell' hl hl'
    go_enter Try.func76, Try.ntmps76
    go_wp2_with fail
    go_loopw [5] (fun iv wr => ∃ i : Nat, i ≤ n ∧ iv = .int .i64 i ∧ Below w.heap.size w wr ∧ Hid (∀ (j : Nat) (d d' : AtomD), j < i → l[j]? = some d → l'[j]? = some d' → d = d')) (fun iv _ => n - (intOf iv).toNat)
    case atStart => exact ⟨0, by omega, rfl, Below.refl _ _, fun j d d' hj => by omega⟩
    case round =>
      obtain ⟨i, hi, rfl, hb, HE⟩ := hrel
      have HB := Lib.hid hb
      by_cases hlt : i < n
      · obtain ⟨b, off, rfl, hbw, hc⟩ := HC.out (by omega)
        obtain ⟨b', off', rfl, hbw', hc'⟩ := HC'.out (by omega)
        obtain ⟨d, hd⟩ : ∃ d, l[i]? = some d := ⟨l[i]'(by rw [HL.out]; exact hlt), List.getElem?_eq_getElem (by rw [HL.out]; exact hlt)⟩
        obtain ⟨d', hd'⟩ : ∃ d, l'[i]? = some d := ⟨l'[i]'(by rw [HL'.out]; exact hlt), List.getElem?_eq_getElem (by rw [HL'.out]; exact hlt)⟩
        obtain ⟨ea, em, ec, c0, c1, hdi, hints⟩ := atomAt (n := n) hc i d hd
        obtain ⟨ea', em', ec', c0', c1', hdi', hints'⟩ := atomAt (n := n) hc' i d' hd'
        have k0 := cell_regrown (w := wr) (cellk hb c0)
        have k1 := cell_regrown (w := wr) (cellk hb c1)
        have k0' := cell_regrown (w := wr) (cellk hb c0')
        have k1' := cell_regrown (w := wr) (cellk hb c1')
        have HD := Lib.hid hd
        have HD' := Lib.hid hd'
        have hi0 : (0 : Int) ≤ i := by omega
        have hi1 : (i : Int) < n := by omega
        have hcall := Lib.hid (fun dn os => hz.out (grow (redrawn wr dn) os) d.1 d'.1 (.slice ea em ec) (.slice ea' em' ec') d.2 d'.2 (hints.below (hb.trans ((below_regrown wr dn os).mono hb.size))) (hints'.below (hb.trans ((below_regrown wr dn os).mono hb.size))))
        clear hc hc' hbw hbw' hb hd hd' hdi hdi' hints hints' c0 c1 c0' c1'
        by_cases heq : d = d'
        · have HQ := Lib.hid heq
          have e1 : decide (d.1 = d'.1 ∧ d.2 = d'.2) = true := decide_eq_true ⟨by rw [heq], by rw [heq]⟩
          rw [e1] at hcall
          clear e1 heq
          generalize d.1 = r at *
          generalize d'.1 = r' at *
          go_wp2_with fail
          refine wp_region_quiet_below (by kernel_rfl) (by kernel_rfl) ?_
          repeat (any_goals (first | go_big_quiet_step ((go_at_call 90; exact Calls.regrown_of (hcall.out _ _))) | quiet_step ((go_at_call 90; exact Calls.regrown_of (hcall.out _ _)))))
          refine wpQuiet_nil ?_
          intro _ hw'
          obtain ⟨⟨dq, osq⟩, hw''⟩ := hw'
          subst hw''
          go_wp2_with fail
          refine ⟨⟨i + 1, by omega, by simp, bnext HB.out (below_regrown _ _ _), fun j x x' hj h5 h6 => ?_⟩, by simp [intOf]; omega⟩
          rcases Nat.lt_or_ge j i with h7 | h7
          · exact HE.out j x x' h7 h5 h6
          · obtain rfl : j = i := by omega
            rw [HD.out] at h5; rw [HD'.out] at h6
            cases h5; cases h6; exact HQ.out
        · have HQ : Hid (decide (l = l') = false) := decide_eq_false (fun e => heq (by rw [e] at HD; exact Option.some.inj (HD.out.symm.trans HD'.out)))
          have e1 : decide (d.1 = d'.1 ∧ d.2 = d'.2) = false := decide_eq_false (fun e => heq (Prod.ext e.1 e.2))
          rw [e1] at hcall
          clear e1 heq
          generalize d.1 = r at *
          generalize d'.1 = r' at *
          go_wp2_with fail
          refine wp_region_quiet_below (by kernel_rfl) (by kernel_rfl) ?_
          repeat (any_goals (first | go_big_quiet_step ((go_at_call 90; exact Calls.regrown_of (hcall.out _ _))) | quiet_step ((go_at_call 90; exact Calls.regrown_of (hcall.out _ _)))))
          refine wpQuiet_nil ?_
          intro _ hw'
          obtain ⟨⟨dq, osq⟩, hw''⟩ := hw'
          subst hw''
          go_wp2_with fail
          go_ret
          exact ⟨ret_b HQ.out.symm, bnext HB.out (below_regrown _ _ _)⟩
      · obtain rfl : i = n := by omega
        have HQ : Hid (decide (l = l') = true) := decide_eq_true (getElem_eq_of (by rw [HL.out, HL'.out]) (fun j x x' h5 h6 => HE.out j x x' (by rw [← HL.out]; exact (List.getElem?_eq_some_iff.1 h5).1) h5 h6))
        clear hb
        go_wp2_with fail
        go_ret
        exact ⟨ret_b HQ.out.symm, HB.out⟩
  · have HQ : Hid (decide (l = l') = false) := decide_eq_false (fun e => hne (by rw [← hl, ← hl', e]))
    have q : ((n : Int) != n') = true := by simp; omega
    clear h h' hcell hcell' hl hl' hne
    go_enter Try.func76, Try.ntmps76
    go_wp2_with fail
    go_ret
    exact ⟨ret_b HQ.out.symm, Below.refl _ _⟩
theorem eqAtomSR (w : World) (v v' : Value) (d : List AtomD) (h : RdAtomS w v d) (h' : RdAtomS w v' d) :
    Calls Try.prog 76 #[v, v'] w (GaveBool w true) := by
  have := eqAtomS_any w v v' d d h h'
  rwa [decide_eq_true rfl] at this

theorem info_Atom : (Try.prog.info? 37).map (fun i => (i.zero, i.size, i.bytes)) = some (some (.agg #[.int .i64 0, .slice none 0 0]), 2, 32) := by kernel_rfl
/-- The blocks of a part that has been made between w and w'. -/
def Made (w w' : World) (bss : List (List Nat)) : Prop := bss.flatten.Nodup ∧ ∀ b ∈ bss.flatten, w.heap.size < b ∧ b < w'.heap.size
theorem flatten_set {bss : List (List Nat)} {i : Nat} {bs : List Nat} (hi : i < bss.length) (he : bss.getD i [] = []) : ∀ x, x ∈ (bss.set i bs).flatten ↔ x ∈ bss.flatten ∨ x ∈ bs := by
  induction bss generalizing i with
  | nil => simp at hi
  | cons a bss ih =>
    cases i with
    | zero =>
      have : a = [] := by simpa [List.getD] using he
      subst this
      intro x; simp [or_comm]
    | succ i =>
      intro x
      have := ih (i := i) (by simpa using hi) (by simpa [List.getD] using he) x
      simp only [List.set_cons_succ, List.flatten_cons, List.mem_append, this]
      simp only [or_assoc]
theorem nodup_set {bss : List (List Nat)} {i : Nat} {bs : List Nat} (hi : i < bss.length) (he : bss.getD i [] = []) (h : bss.flatten.Nodup) (hb : bs.Nodup) (hd : ∀ x ∈ bs, x ∉ bss.flatten) : (bss.set i bs).flatten.Nodup := by
  induction bss generalizing i with
  | nil => simp at hi
  | cons a bss ih =>
    rw [List.flatten_cons, List.nodup_append] at h
    cases i with
    | zero =>
      simp only [List.set_cons_zero, List.flatten_cons, List.nodup_append]
      refine ⟨hb, h.2.1, fun x hx y hy e => hd x hx ?_⟩
      rw [List.flatten_cons, List.mem_append]; right; rw [e]; exact hy
    | succ i =>
      have hi' : i < bss.length := by simpa using hi
      have he' : bss.getD i [] = [] := by simpa [List.getD] using he
      simp only [List.set_cons_succ, List.flatten_cons, List.nodup_append]
      refine ⟨h.1, ih hi' he' h.2.1 (fun x hx hm => hd x hx (by rw [List.flatten_cons, List.mem_append]; exact .inr hm)), fun x hx y hy e => ?_⟩
      rcases (flatten_set hi' he' y).1 hy with h5 | h5
      · exact h.2.2 x hx y h5 e
      · subst e; exact hd x h5 (by rw [List.flatten_cons, List.mem_append]; exact .inl hx)
theorem Made.set {w w1 w2 : World} {bss : List (List Nat)} {i : Nat} {bs : List Nat} (h : Made w w1 bss) (hi : i < bss.length) (he : bss.getD i [] = []) (hs : w.heap.size < w1.heap.size) (hf : Fresh w1 w2 bs) (h12 : w1.heap.size ≤ w2.heap.size) : Made w w2 (bss.set i bs) := by
  refine ⟨nodup_set hi he h.1 hf.1 (fun x hx hm => ?_), fun b hb => ?_⟩
  · have h5 := (hf.2 x hx).1
    have h6 := (h.2 x hm).2
    omega
  · rcases (flatten_set hi he b).1 hb with h5 | h5
    · have := h.2 b h5; omega
    · have := hf.2 b h5; omega
theorem madeAtoms (n t : Nat) (ht : t < n * 2) : (madeCells #[.int .i64 0, .slice none 0 0] (n * 2)).toList[t]? = some (if t % 2 = 0 then .int .i64 0 else .slice none 0 0) := by
  unfold madeCells
  simp only [Array.toList_map, Array.toList_range, List.getElem?_map, List.getElem?_range ht, Option.map_some]
  congr 1
  have h2 : t % 2 = 0 ∨ t % 2 = 1 := by omega
  rcases h2 with h | h
  · rw [if_pos h]; simp [h]
  · rw [if_neg (by omega)]; simp [h]
theorem zeroAtoms {w w1 : World} {n : Nat} (h : BuiltC 37 2 w w1 (.slice (some ⟨w.heap.size, 0, none⟩) n n) n (madeCells #[.int .i64 0, .slice none 0 0] (n * 2)).toList) : RowO 2 COAtom w1 w.heap.size 0 (List.replicate n ((0, []) : AtomD)) (List.replicate n []) := by
  refine ⟨by simp, h.lt.2, fun t ht => ?_, fun j d hd => ?_⟩
  · rw [Nat.zero_add]; exact h.frozen t
  · have hj : j < n := by
      rcases Nat.lt_or_ge j n with h5 | h5
      · exact h5
      · rw [List.getElem?_eq_none (by simpa using h5)] at hd; cases hd
    rw [List.getElem?_replicate, if_pos hj] at hd
    cases hd
    refine ⟨[.int .i64 0, .slice none 0 0], rfl, fun e he => ?_, none, 0, 0, rfl, ⟨by decide, by decide⟩, Ints.nil _, .inl ⟨none, 0, rfl, ?_⟩⟩
    · rw [Nat.zero_add, h.cell _ (by omega), madeAtoms _ _ (by omega)]
      have : e = 0 ∨ e = 1 := by omega
      rcases this with rfl | rfl
      · rw [if_pos (by omega)]; rfl
      · rw [if_neg (by omega)]; rfl
    · rw [List.getD_eq_getElem?_getD, List.getElem?_replicate]; split <;> rfl
theorem take_set {l : List AtomD} {n i : Nat} {z d : AtomD} (hl : l.length = n) (hi : i < n) (hd : l[i]? = some d) : (l.take i ++ List.replicate (n - i) z).set i d = l.take (i + 1) ++ List.replicate (n - (i + 1)) z := by
  obtain ⟨hi2, rfl⟩ := List.getElem?_eq_some_iff.1 hd
  rw [List.set_append_right _ _ (by rw [List.length_take]; omega), List.length_take, Nat.min_eq_left (by omega), Nat.sub_self, show n - i = (n - (i + 1)) + 1 from by omega, List.replicate_succ, List.set_cons_zero, List.take_succ_eq_append_getElem hi2, List.append_assoc]
  rfl
/-- One round of toAtomS: element i of the row is laid. -/
theorem atomLaid {w2 : World} {g : Nat} {l : List AtomD} {bss : List (List Nat)} {i : Nat} {r : Int} {a : Option Addr} {n c : Nat} {li : List Int} {bs : List Nat} (h : RowO 2 COAtom w2 g 0 l bss) (hi : i < l.length)
    (hlo : ∀ x ∈ bss.flatten, g < x) (hr : inI r) (ho : OInts w2 (.slice a n c) li bs) (hb : ∀ x ∈ bs, g < x) :
    RowO 2 COAtom ((w2.setCell ⟨g, i * 2, none⟩ (.int .i64 r)).setCell ⟨g, i * 2 + 1, none⟩ (.slice a n c)) g 0 (l.set i (r, li)) (bss.set i bs) := by
  obtain ⟨cs, k1, k2, xa, xn, xc, rfl, _, _⟩ := h.2.2.2 i l[i] (List.getElem?_eq_getElem hi)
  have q0 : w2.cell? ⟨g, i * 2, none⟩ = some (.int .i64 l[i].1) := by have := k2 0 (by omega); simpa using this
  have q1 : w2.cell? ⟨g, i * 2 + 1, none⟩ = some (.slice xa xn xc) := by have := k2 1 (by omega); simpa using this
  have hne : ∀ {x y : Nat}, x ≠ y → (⟨g, x, none⟩ : Addr) ≠ ⟨g, y, none⟩ := fun h e => h (congrArg Addr.off e)
  refine h.upd (by simp [World.setCell]) i hi (r, li) bs [.int .i64 r, .slice a n c] (fun t _ => by rw [World.frozen?_setCell, World.frozen?_setCell]) (fun t ht => ?_) rfl (fun e he => ?_) ⟨a, n, c, rfl, hr, ?_⟩ (fun j cs d hj hd hc => ?_)
  · rw [Nat.zero_add, World.cell?_setCell_other _ _ _ _ (hne (by omega)), World.cell?_setCell_other _ _ _ _ (hne (by omega))]
  · rw [Nat.zero_add]
    have : e = 0 ∨ e = 1 := by omega
    rcases this with rfl | rfl
    · show World.cell? _ ⟨g, i * 2, none⟩ = _
      rw [World.cell?_setCell_other _ _ _ _ (hne (by omega)), World.cell?_setCell_same _ _ _ q0]; rfl
    · refine World.cell?_setCell_same (u := .slice xa xn xc) _ _ _ ?_
      rw [World.cell?_setCell_other _ _ _ _ (hne (by omega))]; exact q1
  · exact (ho.setCell (B := g + 1) (fun x hx => hb x hx) _ _ _ (by omega)).setCell (B := g + 1) (fun x hx => hb x hx) _ _ _ (by omega)
  · have hnb : ∀ b ∈ bss.getD j [], b ∉ [g] := fun b hb' hm => by
      have h5 := hlo b (getD_mem_flatten hb')
      simp at hm; omega
    exact (hc.onlyAt hnb (OnlyAt.setCell _ _ _ _)).onlyAt hnb (OnlyAt.setCell _ _ _ _)

set_option maxHeartbeats 4000000 in
theorem toAtomSO (w : World) (v : Value) (l : List AtomD) (h : RdAtomS w v l) (hs : sizeAtomS l ≤ 1048576) :
    Calls Try.prog 74 #[v] w (GaveO (fun w' v bs => ROAtomS w' v l bs) w) := by
  obtain ⟨a, n, c, rfl, h⟩ := h
  obtain ⟨hl, hn, hm, hcell⟩ := h.at
  have hnl : n ≤ 1048576 := by unfold sizeAtomS at hs; omega
  unfold maxLen at hm
  have HC := Lib.hid hcell
  have HL := Lib.hid hl
  have HSZ := Lib.hid hs
  have hz := Lib.hid (fun w r v l a b => toAtom_any w r v l a b)
  clear h hcell hl hs
  go_enter Try.func74, Try.ntmps74
  go_wp2_with (at_make; refine wpList_make_C rfl (.tmp 6) (.tmp 6) 28 rfl 37 (.agg #[.int .i64 0, .slice none 0 0]) 2 32 Try.underlying28 info_Atom (by decide) (by decide) (Below.refl _ w) .i64 .i64 n rfl rfl (by omega) ?_)
  intro w1 hb1
  have HB1 := Lib.hid hb1
  have hrow : RowO 2 COAtom w1 w.heap.size 0 (List.replicate n ((0, []) : AtomD)) (List.replicate n []) := zeroAtoms hb1
  have HR1 := Lib.hid hrow
  clear hb1 hrow
  go_wp2_with fail
  go_loopw [4] (fun iv wr => ∃ (i : Nat) (bss : List (List Nat)), i ≤ n ∧ iv = .int .i64 i ∧ RowO 2 COAtom wr w.heap.size 0 (l.take i ++ List.replicate (n - i) ((0, []) : AtomD)) bss ∧ Made w wr bss ∧ Hid (∀ j, i ≤ j → bss.getD j [] = []) ∧ Below w.heap.size w wr) (fun iv _ => n - (intOf iv).toNat)
  case atStart =>
    exact ⟨0, List.replicate n [], by omega, rfl, by simpa using HR1.out, ⟨by simp, by simp⟩, fun j _ => by simp [List.getD, List.getElem?_replicate]; split <;> rfl, HB1.out.2⟩
  case round =>
    obtain ⟨i, bss, hi, rfl, hrow, hmade, HE, hb⟩ := hrel
    have HB := Lib.hid hb
    have HROW := Lib.hid hrow
    have HMADE := Lib.hid hmade
    by_cases hlt : i < n
    · obtain ⟨b, off, rfl, hbw, hc⟩ := HC.out (by omega)
      have hil : i < l.length := by rw [HL.out]; exact hlt
      obtain ⟨d, hd⟩ : ∃ d, l[i]? = some d := ⟨l[i]'hil, List.getElem?_eq_getElem hil⟩
      obtain ⟨ea, em, ec, c0, c1, hdi, hints⟩ := atomAt (n := n) hc i d hd
      replace c0 := cellk hb c0
      replace c1 := cellk hb c1
      have hi0 : (0 : Int) ≤ i := by omega
      have hi1 : (i : Int) < n := by omega
      have hdl : d.2.length ≤ 1048576 := by
        have h5 := sumArgs_take hd; have h6 := sumArgs_le l (i + 1); have := HSZ.out; unfold sizeAtomS at this; omega
      have hcall := Lib.hid (hz.out wr d.1 (.slice ea em ec) d.2 (hints.below hb) hdl)
      have HD := Lib.hid hd
      have HDI := Lib.hid hdi
      clear hc hbw hb hd hdi hints hdl hrow hmade
      generalize hr : d.1 = r at *
      have HRR := Lib.hid hr
      clear hr
      go_wp2_with fail
      refine hcall.out.mono ?_
      rintro e w2 ⟨v2, bs2, rfl, ⟨a2, n2, c2, rfl, ho2⟩, hfr2, hb2⟩
      have hrow2 := HROW.out.keep hb2.size (hb2.block _ HROW.out.2.1) (fun j cs d _ h => h.below hb2)
      have hlen : (l.take i ++ List.replicate (n - i) ((0, []) : AtomD)).length = n := by have := HL.out; simp; omega
      have hgi : (l.take i ++ List.replicate (n - i) ((0, []) : AtomD))[i]? = some (0, []) := by
        rw [List.getElem?_append_right (by simp; omega)]
        simp [List.getElem?_replicate]; omega
      obtain ⟨cs, h1, h2, xa, xn, xc, rfl, _, _⟩ := hrow2.2.2.2 i _ hgi
      have q0 : w2.cell? ⟨w.heap.size, i * 2, none⟩ = some (.int .i64 0) := by have := h2 0 (by omega); simpa using this
      have q1 : w2.cell? ⟨w.heap.size, i * 2 + 1, none⟩ = some (.slice xa xn xc) := by have := h2 1 (by omega); simpa using this
      have f0 : w2.frozen? ⟨w.heap.size, i * 2, none⟩ = false := by have := hrow2.2.2.1 (i * 2) (by rw [hlen]; omega); simpa using this
      have f1 : w2.frozen? ⟨w.heap.size, i * 2 + 1, none⟩ = false := by have := hrow2.2.2.1 (i * 2 + 1) (by rw [hlen]; omega); simpa using this
      have HROW2 := Lib.hid hrow2
      have HO2 := Lib.hid ho2
      have HF2 := Lib.hid hfr2
      have HB2 := Lib.hid (bnext HB.out hb2)
      have HS2 := Lib.hid hb2.size
      have HLEN := Lib.hid hlen
      have Q0 := Lib.hid q0
      have Q1 := Lib.hid q1
      clear hb2 hrow2 hlen hgi h1 h2 ho2 hfr2
      go_wp2_with fail
      have hW := atomLaid (i := i) HROW2.out (by rw [HLEN.out]; exact hlt) (fun x hx => (HMADE.out.2 x hx).1) HDI.out HO2.out (fun x hx => Nat.lt_of_lt_of_le HROW.out.2.1 (HF2.out.lo x hx))
      have hlb : i < bss.length := by rw [HROW.out.1, HLEN.out]; exact hlt
      rw [take_set HL.out hlt (by rw [HD.out]; congr 1; exact Prod.ext HRR.out rfl)] at hW
      refine ⟨⟨i + 1, bss.set i bs2, by omega, by simp, hW, ?_, fun j hj => ?_, (HB2.out.setCell (by simp) _).setCell (by simp) _⟩, by simp [intOf]; omega⟩
      · exact HMADE.out.set hlb (HE.out i (Nat.le_refl _)) HROW.out.2.1 (HF2.out.wide (Nat.le_refl _) (by simp [World.setCell])) (by simp [World.setCell]; exact HS2.out)
      · rw [List.getD_eq_getElem?_getD, List.getElem?_set_ne (by omega), ← List.getD_eq_getElem?_getD]
        exact HE.out j (by omega)
    · obtain rfl : i = n := by omega
      have hW := HROW.out
      rw [List.take_of_length_le (by rw [HL.out]; exact Nat.le_refl _), Nat.sub_self, List.replicate_zero, List.append_nil] at hW
      have HW := Lib.hid hW
      clear hb hrow hmade hW
      go_wp2_with fail
      go_ret
      by_cases h0 : i = 0
      · subst h0
        have hl0 : l = [] := List.eq_nil_of_length_eq_zero HL.out
        exact ⟨_, [], rfl, ⟨_, _, _, rfl, .inl ⟨_, _, rfl, Nat.zero_le _, hl0, rfl⟩⟩, ⟨by simp, fun b hb => by simp at hb⟩, HB.out⟩
      · refine ⟨_, w.heap.size :: bss.flatten, rfl, ⟨_, _, _, rfl, .inr ⟨_, _, _, _, bss, rfl, HL.out, by omega, Nat.le_refl _, by unfold maxLen; omega, rfl, HW.out⟩⟩, ⟨?_, fun b hb => ?_⟩, HB.out⟩
        · rw [List.nodup_cons]
          exact ⟨fun hm => by have := (HMADE.out.2 _ hm).1; omega, HMADE.out.1⟩
        · rcases List.mem_cons.1 hb with rfl | hb
          · exact ⟨Nat.le_refl _, HW.out.2.1⟩
          · have := HMADE.out.2 b hb; omega
theorem toAtomSR (w : World) (v : Value) (d : List AtomD) (h : RdAtomS w v d) (hl : sizeAtomS d ≤ 1048576) :
    Calls Try.prog 74 #[v] w (GaveD (fun w' v => RdAtomS w' v d) w) :=
  (toAtomSO w v d h hl).mono fun e w' ⟨v, bs, he, hr, _, hb⟩ => ⟨v, he, hr.rd, hb⟩
end Go.Proofs.Ytpedpbbiamhgdaa

/-! BuildA -/
namespace Go.Proofs.Ytpedpbbiamhgdaa
open Go.RowKit
set_option linter.unusedVariables false

def Els (w : World) (cs : List Value) (l : List AtomD) (bss : List (List Nat)) : Prop :=
  bss.length = l.length ∧ ∀ j d, l[j]? = some d → ∃ a n c, cs[j * 2]? = some (.int .i64 d.1) ∧ cs[j * 2 + 1]? = some (.slice a n c) ∧ inI d.1 ∧ OInts w (.slice a n c) d.2 (bss.getD j [])
def BuiltA (E : TypeId) (W w : World) (v : Value) (l : List AtomD) (bss : List (List Nat)) : Prop := ∃ cs, BuiltC E 2 W w v l.length cs ∧ Els w cs l bss

theorem BuiltA.nil (E : TypeId) (W w : World) (hb : Below W.heap.size W w) : BuiltA E W w (.slice none 0 0) [] [] :=
  ⟨[], BuiltC.nil E 2 W w hb, rfl, fun j d h => by simp at h⟩
theorem BuiltA.below {E : TypeId} {W w : World} {v : Value} {l : List AtomD} {bss : List (List Nat)} (h : BuiltA E W w v l bss) : Below W.heap.size W w := by
  obtain ⟨cs, h1, _⟩ := h; exact h1.2
theorem BuiltA.grow {E : TypeId} {W w w' : World} {v : Value} {l : List AtomD} {bss : List (List Nat)} (h : BuiltA E W w v l bss) (hb : Below w.heap.size w w') : BuiltA E W w' v l bss := by
  obtain ⟨cs, h1, h2, h3⟩ := h
  refine ⟨cs, h1.grow hb, h2, fun j d hd => ?_⟩
  obtain ⟨a, n, c, e1, e2, e3, e4⟩ := h3 j d hd
  exact ⟨a, n, c, e1, e2, e3, e4.below hb⟩
theorem BuiltA.len {E : TypeId} {W w : World} {v : Value} {l : List AtomD} {bss : List (List Nat)} (h : BuiltA E W w v l bss) : bss.length = l.length := by
  obtain ⟨cs, h1, h2, h3⟩ := h; exact h2
/-- A write elsewhere. -/
theorem BuiltA.onlyAt {E : TypeId} {W w w' : World} {v : Value} {l : List AtomD} {bss : List (List Nat)} {bs' : List Nat} (h : BuiltA E W w v l bss) (ko : OnlyAt bs' w w') (hW : ∀ x ∈ bs', W.heap.size ≤ x) (hv : ∀ b ∈ blk v, b ∉ bs') (hn : ∀ b ∈ bss.flatten, b ∉ bs') : BuiltA E W w' v l bss := by
  obtain ⟨cs, h1, h2, h3⟩ := h
  refine ⟨cs, ⟨⟨h1.1.1, ?_⟩, OnlyAt.below h1.2 ko hW⟩, h2, fun j d hd => ?_⟩
  · rcases h1.1.2 with h4 | ⟨g, cap, cur, rfl, h4, hg, h5⟩
    · exact .inl h4
    · have hlt : g < w.heap.size := by
        rcases Nat.lt_or_ge g w.heap.size with h6 | h6
        · exact h6
        · rw [Array.getElem?_eq_none h6] at hg; cases hg
      exact .inr ⟨g, cap, cur, rfl, h4, by rw [ko.block g hlt (hv g (by simp [blk]))]; exact hg, h5⟩
  · obtain ⟨a, n, c, e1, e2, e3, e4⟩ := h3 j d hd
    exact ⟨a, n, c, e1, e2, e3, e4.onlyAt ko (fun x hx => hn x (getD_mem_flatten hx))⟩
/-- Behind an append of the cells of d. -/
theorem BuiltA.app {E : TypeId} {W w w' : World} {v v' : Value} {l : List AtomD} {bss : List (List Nat)} {cs : List Value} {r : Int} {a : Option Addr} {n c : Nat} {li : List Int} {bs : List Nat}
    (hc : BuiltC E 2 W w v l.length cs) (he : Els w cs l bss) (h' : BuiltC E 2 W w' v' (l.length + 1) (cs ++ [.int .i64 r, .slice a n c])) (ko : OnlyAt (blk v) w w')
    (hn : ∀ b ∈ bss.flatten, b ∉ blk v) (hr : inI r) (ho : OInts w (.slice a n c) li bs) (hb : ∀ b ∈ bs, b ∉ blk v) : BuiltA E W w' v' (l ++ [(r, li)]) (bss ++ [bs]) := by
  have hlen := hc.len
  refine ⟨cs ++ [.int .i64 r, .slice a n c], by simpa using h', by simp [he.1], fun j d hd => ?_⟩
  rcases Nat.lt_or_ge j l.length with hj | hj
  · rw [List.getElem?_append_left hj] at hd
    obtain ⟨a', n', c', e1, e2, e3, e4⟩ := he.2 j d hd
    refine ⟨a', n', c', by rw [List.getElem?_append_left (by omega)]; exact e1, by rw [List.getElem?_append_left (by omega)]; exact e2, e3, ?_⟩
    have e5 : (bss ++ [bs]).getD j [] = bss.getD j [] := by
      rw [List.getD_eq_getElem?_getD, List.getD_eq_getElem?_getD, List.getElem?_append_left (by rw [he.1]; exact hj)]
    rw [e5]
    exact e4.onlyAt ko (fun x hx => hn x (getD_mem_flatten hx))
  · have hj2 : j = l.length := by
      have := (List.getElem?_eq_some_iff.1 hd).1
      simp at this; omega
    subst hj2
    have hd' : d = (r, li) := by simpa using hd.symm
    subst hd'
    refine ⟨a, n, c, ?_, ?_, hr, ?_⟩
    · rw [List.getElem?_append_right (by omega), hlen]; simp
    · rw [List.getElem?_append_right (by omega), hlen, show l.length * 2 + 1 - l.length * 2 = 1 from by omega]; rfl
    · have e5 : (bss ++ [bs]).getD l.length [] = bs := by
        rw [List.getD_eq_getElem?_getD, List.getElem?_append_right (by rw [he.1]; exact Nat.le_refl _), he.1]; simp
      rw [e5]
      exact ho.onlyAt ko hb
theorem BuiltA.cells {E : TypeId} {W w : World} {v : Value} {l : List AtomD} {bss : List (List Nat)} (h : BuiltA E W w v l bss) : (l = [] ∧ v = .slice none 0 0) ∨ ∃ g cap, v = .slice (some ⟨g, 0, none⟩) l.length cap ∧ l.length ≤ cap ∧ cap ≤ maxLen ∧ W.heap.size ≤ g ∧ RowO 2 COAtom w g 0 l bss := by
  obtain ⟨cs, h1, h2, h3⟩ := h
  rcases h1.form with ⟨rfl, h4⟩ | ⟨g, cap, rfl, h4, h5⟩
  · exact .inl ⟨List.eq_nil_of_length_eq_zero h4, rfl⟩
  · refine .inr ⟨g, cap, rfl, h4, h5, h1.lt.1, h2, h1.lt.2, fun t ht => by rw [Nat.zero_add]; exact h1.frozen t, fun j d hd => ?_⟩
    obtain ⟨a, n, c, e1, e2, e3, e4⟩ := h3 j d hd
    have hj := (List.getElem?_eq_some_iff.1 hd).1
    refine ⟨[.int .i64 d.1, .slice a n c], rfl, fun e he => ?_, a, n, c, rfl, e3, e4⟩
    rw [Nat.zero_add, h1.cell _ (by omega)]
    have : e = 0 ∨ e = 1 := by omega
    rcases this with rfl | rfl
    · exact e1
    · exact e2
/-- What has been built is the call's own. -/
theorem BuiltA.owns {E : TypeId} {W w : World} {v : Value} {l : List AtomD} {bss : List (List Nat)} (h : BuiltA E W w v l bss) (hnd : (blk v ++ bss.flatten).Nodup) (hlo : ∀ b ∈ bss.flatten, W.heap.size ≤ b ∧ b < w.heap.size) : ∃ bs, ROAtomS w v l bs ∧ Fresh W w bs ∧ ∀ b ∈ bs, b ∈ blk v ∨ b ∈ bss.flatten := by
  rcases h.cells with ⟨rfl, rfl⟩ | ⟨g, cap, rfl, h1, h2, h3, h4⟩
  · exact ⟨[], ⟨_, _, _, rfl, .inl ⟨_, _, rfl, Nat.zero_le _, rfl, rfl⟩⟩, ⟨by simp, fun b hb => by simp at hb⟩, fun b hb => by simp at hb⟩
  · by_cases h0 : l.length = 0
    · have hl : l = [] := List.eq_nil_of_length_eq_zero h0
      subst hl
      exact ⟨[], ⟨_, _, _, rfl, .inl ⟨_, _, rfl, h2, rfl, rfl⟩⟩, ⟨by simp, fun b hb => by simp at hb⟩, fun b hb => by simp at hb⟩
    · refine ⟨g :: bss.flatten, ⟨_, _, _, rfl, .inr ⟨g, 0, _, cap, bss, rfl, rfl, by omega, h1, h2, rfl, h4⟩⟩, ⟨by simpa [blk] using hnd, fun b hb => ?_⟩, fun b hb => by simpa [blk] using hb⟩
      rcases List.mem_cons.1 hb with rfl | hb
      · exact ⟨h3, h4.2.1⟩
      · exact hlo b hb
end Go.Proofs.Ytpedpbbiamhgdaa

/-! QInv -/
namespace Go.Proofs.Ytpedpbbiamhgdaa
open Go.RowKit
set_option linter.unusedVariables false

theorem BuiltA.ro {E : TypeId} {W w : World} {v : Value} {l : List AtomD} {bss : List (List Nat)} (h : BuiltA E W w v l bss) : ∃ bs, ROAtomS w v l bs ∧ ∀ b ∈ bs, b ∈ blk v ∨ b ∈ bss.flatten := by
  rcases h.cells with ⟨rfl, rfl⟩ | ⟨g, cap, rfl, h1, h2, h3, h4⟩
  · exact ⟨[], ⟨_, _, _, rfl, .inl ⟨_, _, rfl, Nat.zero_le _, rfl, rfl⟩⟩, fun b hb => by simp at hb⟩
  · by_cases h0 : l.length = 0
    · have hl : l = [] := List.eq_nil_of_length_eq_zero h0
      subst hl
      exact ⟨[], ⟨_, _, _, rfl, .inl ⟨_, _, rfl, h2, rfl, rfl⟩⟩, fun b hb => by simp at hb⟩
    · exact ⟨g :: bss.flatten, ⟨_, _, _, rfl, .inr ⟨g, 0, _, cap, bss, rfl, rfl, by omega, h1, h2, rfl, h4⟩⟩, fun b hb => by simpa [blk] using hb⟩

theorem OnlyAt.frozen {bs : List Nat} {w w' : World} (h : OnlyAt bs w w') {b o : Nat} (hlt : b < w.heap.size) (hn : b ∉ bs) (hf : w.frozen? ⟨b, o, none⟩ = false) : w'.frozen? ⟨b, o, none⟩ = false := by
  have e : w'.heap[b]? = w.heap[b]? := h.block b hlt hn
  unfold World.frozen? at hf ⊢
  simp only [e]; exact hf
theorem blk_lt {E : TypeId} {size n : Nat} {W w : World} {v : Value} {cs : List Value} (h : BuiltC E size W w v n cs) : ∀ b ∈ blk v, b < w.heap.size := by
  intro b hb
  rcases h.form with ⟨rfl, _⟩ | ⟨g, cap, rfl, _, _⟩
  · simp [blk] at hb
  · simp [blk] at hb; subst hb; exact h.lt.2
theorem Els.grow {w w' : World} {cs : List Value} {l : List AtomD} {bss : List (List Nat)} (h : Els w cs l bss) (hb : Below w.heap.size w w') : Els w' cs l bss :=
  ⟨h.1, fun j d hd => by obtain ⟨a, n, c, e1, e2, e3, e4⟩ := h.2 j d hd; exact ⟨a, n, c, e1, e2, e3, e4.below hb⟩⟩

/-- A struct of a head and a []Atom in the block behind W's, the []Atom being built. -/
def QInv (E : TypeId) (W w : World) (vh : Value) (l : List AtomD) (xv : Value) (bss : List (List Nat)) : Prop :=
  BuiltA E W w xv l bss ∧ w.cell? ⟨W.heap.size, 1, none⟩ = some xv ∧ w.cell? ⟨W.heap.size, 0, none⟩ = some vh ∧ w.frozen? ⟨W.heap.size, 1, none⟩ = false ∧
  (∀ b ∈ blk xv, b ≠ W.heap.size ∧ b ∉ bss.flatten) ∧ (∀ b ∈ bss.flatten, W.heap.size < b ∧ b < w.heap.size) ∧ W.heap.size < w.heap.size
theorem QInv.step {E : TypeId} {W w w2 wa w3 : World} {vh xv v' : Value} {l : List AtomD} {cs : List Value} {bss : List (List Nat)} {r : Int} {a : Option Addr} {n c : Nat} {li : List Int} {bs : List Nat}
    (h : QInv E W w vh l xv bss) (h1 : BuiltC E 2 W w xv l.length cs) (h2 : Els w cs l bss) (hb2 : Below w.heap.size w w2) (hba : Below w2.heap.size w2 wa) (ho : OInts w2 (.slice a n c) li bs) (hfr : ∀ b ∈ bs, w.heap.size ≤ b ∧ b < w2.heap.size) (hr : inI r)
    (h' : BuiltC E 2 W w3 v' (l.length + 1) (cs ++ [.int .i64 r, .slice a n c])) (ko : OnlyAt (blk xv) wa w3) (hv' : ∀ b ∈ blk v', b ∈ blk xv ∨ wa.heap.size ≤ b) :
    QInv E W (w3.setCell ⟨W.heap.size, 1, none⟩ v') vh (l ++ [(r, li)]) v' (bss ++ [bs]) := by
  obtain ⟨_, h3, h4, h5, h6, h7, h8⟩ := h
  have hwa : Below w.heap.size w wa := bnext hb2 hba
  have hs2 := hb2.size
  have hsa := hba.size
  have hs3 := ko.size
  have hlt := blk_lt h1
  have hbx : ∀ b ∈ bs, b ∉ blk xv := fun b hb hx => by have := hlt b hx; have := (hfr b hb).1; omega
  have hn : ∀ b ∈ bss.flatten, b ∉ blk xv := fun b hb hx => (h6 b hx).2 hb
  have hxb : W.heap.size ∉ blk xv := fun hx => (h6 _ hx).1 rfl
  have h9 := BuiltA.app (h1.grow hwa) (h2.grow hwa) h' ko hn hr (ho.below hba) hbx
  have hfl : ∀ b ∈ (bss ++ [bs]).flatten, b ∈ bss.flatten ∨ b ∈ bs := by intro b hb; simpa using hb
  have kst := OnlyAt.setCell w3 W.heap.size 1 v'
  have k3 := ko.cell hxb (cellk hwa h3)
  have k4 := ko.cell hxb (cellk hwa h4)
  have hsz : (w3.setCell ⟨W.heap.size, 1, none⟩ v').heap.size = w3.heap.size := by simp [World.setCell]
  refine ⟨h9.onlyAt kst (fun x hx => by simp at hx; omega) (fun b hb hx => ?_) (fun b hb hx => ?_), World.cell?_setCell_same _ _ _ k3, ?_, ?_, fun b hb => ?_, fun b hb => ?_, by rw [hsz]; omega⟩
  · simp at hx; subst hx
    rcases hv' _ hb with h | h
    · exact hxb h
    · omega
  · simp at hx; subst hx
    rcases hfl _ hb with h | h
    · have := (h7 _ h).1; omega
    · have := (hfr _ h).1; omega
  · rw [World.cell?_setCell_other _ _ _ _ (by intro e; cases e)]; exact k4
  · have hf3 := ko.frozen (o := 1) (by omega) hxb (frok hwa h3 h5)
    simpa using hf3
  · rcases hv' _ hb with h | h
    · refine ⟨(h6 _ h).1, fun hx => ?_⟩
      rcases hfl _ hx with h' | h'
      · exact (h6 _ h).2 h'
      · exact hbx _ h' h
    · refine ⟨by omega, fun hx => ?_⟩
      rcases hfl _ hx with h' | h'
      · have := (h7 _ h').2; omega
      · have := (hfr _ h').2; omega
  · rw [hsz]
    rcases hfl _ hb with h | h
    · have := h7 _ h; exact ⟨this.1, by omega⟩
    · have := hfr _ h; exact ⟨by omega, by omega⟩
theorem QInv.done {E : TypeId} {W w : World} {vh xv : Value} {l : List AtomD} {bss : List (List Nat)} {hd : List Int} {bh : List Nat} {rb : Nat} (h : QInv E W w vh l xv bss) (ho : OInts W vh hd bh) (hb : ∀ b ∈ bh, b ≠ rb) (hr : rb < W.heap.size) {w' : World} (k : OnlyAt [rb] w w') : Ints w' vh hd ∧ RdAtomS w' xv l := by
  obtain ⟨h1, h3, h4, h5, h6, h7, h8⟩ := h
  refine ⟨((ho.below h1.below).onlyAt k (fun b hb' hx => hb b hb' (by simpa using hx))).1, ?_⟩
  obtain ⟨bs, hro, hbs⟩ := h1.ro
  obtain ⟨cs, hc, _⟩ := h1
  refine (hro.onlyAt k (fun b hb' hx => ?_)).rd
  simp at hx; subst hx
  rcases hbs _ hb' with h | h
  · rcases hc.form with ⟨rfl, _⟩ | ⟨g, cap, rfl, _, _⟩
    · simp [blk] at h
    · simp [blk] at h; subst h; have := hc.lt.1; omega
  · have := (h7 _ h).1; omega
theorem OnlyAt.above {bs bs' : List Nat} {w0 w w' : World} (h : OnlyAt bs w0 w) (k : OnlyAt bs' w w') (hn : ∀ b ∈ bs', w0.heap.size ≤ b) : OnlyAt bs w0 w' :=
  ⟨k.os.trans h.os, k.tape.trans h.tape, k.output.trans h.output, Nat.le_trans h.size k.size, fun i hi hb =>
    (k.block i (Nat.lt_of_lt_of_le hi h.size) (fun e => by have := hn i e; omega)).trans (h.block i hi hb)⟩
theorem RdSl.onlyAt {α : Type} {k : Nat} {C : World → List Value → α → Prop} {bs : List Nat} {w w' : World} {v : Value} {l : List α} (h : RdSl k C w v l) (ko : OnlyAt bs w w') (hn : ∀ b ∈ blk v, b ∉ bs) (hC : ∀ cs d, C w cs d → C w' cs d) : RdSl k C w' v l := by
  obtain ⟨a, n, cap, rfl, hl, hn', hm, hc⟩ := h
  refine ⟨a, n, cap, rfl, hl, hn', hm, fun h0 => ?_⟩
  obtain ⟨b, off, rfl, hlt, hc⟩ := hc h0
  refine ⟨b, off, rfl, Nat.lt_of_lt_of_le hlt ko.size, fun j hj => ?_⟩
  obtain ⟨cs, h1, h2, h3⟩ := hc j hj
  refine ⟨cs, h1, fun i hi => ?_, hC _ _ h3⟩
  rw [← h2 i hi]
  exact World.cell?_of_block (ko.block b hlt (hn b (by simp [blk])))
theorem QInv.done2 {E : TypeId} {W w : World} {vh xv : Value} {l : List AtomD} {bss : List (List Nat)} {hd : List Int} {bh : List Nat} {rb : Nat} (h : QInv E W w vh l xv bss) (ho : OInts w vh hd bh) (hb : ∀ b ∈ bh, b ≠ rb) (hr : rb < W.heap.size) {w' : World} (k : OnlyAt [rb] w w') : Ints w' vh hd ∧ RdAtomS w' xv l := by
  obtain ⟨h1, h3, h4, h5, h6, h7, h8⟩ := h
  refine ⟨(ho.onlyAt k (fun b hb' hx => hb b hb' (by simpa using hx))).1, ?_⟩
  obtain ⟨bs, hro, hbs⟩ := h1.ro
  obtain ⟨cs, hc, _⟩ := h1
  refine (hro.onlyAt k (fun b hb' hx => ?_)).rd
  simp at hx; subst hx
  rcases hbs _ hb' with h | h
  · rcases hc.form with ⟨rfl, _⟩ | ⟨g, cap, rfl, _, _⟩
    · simp [blk] at h
    · simp [blk] at h; subst h; have := hc.lt.1; omega
  · have := (h7 _ h).1; omega
theorem QInv.slice {E : TypeId} {W w : World} {vh xv : Value} {l : List AtomD} {bss : List (List Nat)} (h : QInv E W w vh l xv bss) : ∃ a n c, xv = .slice a n c := by
  obtain ⟨⟨cs, hc, _⟩, _⟩ := h
  rcases hc.form with ⟨rfl, _⟩ | ⟨g, cap, rfl, _, _⟩
  · exact ⟨_, _, _, rfl⟩
  · exact ⟨_, _, _, rfl⟩
end Go.Proofs.Ytpedpbbiamhgdaa

/-! OutInv -/
namespace Go.Proofs.Ytpedpbbiamhgdaa
open Go.RowKit
set_option linter.unusedVariables false

def OutInv (E : TypeId) (W w : World) (v : Value) (l : List AtomD) (bss : List (List Nat)) : Prop :=
  BuiltA E W w v l bss ∧ (blk v ++ bss.flatten).Nodup ∧ (∀ b ∈ bss.flatten, W.heap.size ≤ b ∧ b < w.heap.size)
theorem OutInv.below {E : TypeId} {W w : World} {v : Value} {l : List AtomD} {bss : List (List Nat)} (h : OutInv E W w v l bss) : Below W.heap.size W w := h.1.below
theorem OutInv.grow {E : TypeId} {W w w' : World} {v : Value} {l : List AtomD} {bss : List (List Nat)} (h : OutInv E W w v l bss) (hb : Below w.heap.size w w') : OutInv E W w' v l bss :=
  ⟨h.1.grow hb, h.2.1, fun b hx => ⟨(h.2.2 b hx).1, Nat.lt_of_lt_of_le (h.2.2 b hx).2 hb.size⟩⟩
theorem OutInv.lit (E : TypeId) (W w : World) (hb : Below W.heap.size W w) : OutInv E W (w.alloc (.cells #[] E)) (.slice (some ⟨w.heap.size, 0, none⟩) 0 0) [] [] := by
  have h := BuiltC.lit E 2 W w 0 [] (Nat.zero_le _) rfl hb
  exact ⟨⟨[], h, rfl, fun j d h => by simp at h⟩, by simp [blk], fun b hb => by simp at hb⟩
theorem OutInv.nil (E : TypeId) (W w : World) (hb : Below W.heap.size W w) : OutInv E W w (.slice none 0 0) [] [] :=
  ⟨BuiltA.nil E W w hb, by simp [blk], fun b hb => by simp at hb⟩
theorem OutInv.parts {E : TypeId} {W w : World} {v : Value} {l : List AtomD} {bss : List (List Nat)} (h : OutInv E W w v l bss) : ∃ cs, BuiltC E 2 W w v l.length cs ∧ Els w cs l bss := h.1
theorem OutInv.step {E : TypeId} {W w w2 wa w3 : World} {v v' : Value} {l : List AtomD} {cs : List Value} {bss : List (List Nat)} {r : Int} {a : Option Addr} {n c : Nat} {li : List Int} {bs : List Nat}
    (h : OutInv E W w v l bss) (h1 : BuiltC E 2 W w v l.length cs) (h2 : Els w cs l bss) (hb2 : Below w.heap.size w w2) (hba : Below w2.heap.size w2 wa) (ho : OInts w2 (.slice a n c) li bs) (hfr : Fresh w w2 bs) (hr : inI r)
    (h' : BuiltC E 2 W w3 v' (l.length + 1) (cs ++ [.int .i64 r, .slice a n c])) (ko : OnlyAt (blk v) wa w3) (hv' : ∀ b ∈ blk v', b ∈ blk v ∨ wa.heap.size ≤ b) :
    OutInv E W w3 v' (l ++ [(r, li)]) (bss ++ [bs]) := by
  obtain ⟨_, h6, h7⟩ := h
  have hwa : Below w.heap.size w wa := bnext hb2 hba
  have hs2 := hb2.size
  have hsa := hba.size
  have hs3 := ko.size
  have hW := h1.2.size
  have hlt := blk_lt h1
  rw [List.nodup_append] at h6
  obtain ⟨n1, n2, n3⟩ := h6
  have hbx : ∀ b ∈ bs, b ∉ blk v := fun b hb hx => by have := hlt b hx; have := hfr.lo b hb; omega
  have hn : ∀ b ∈ bss.flatten, b ∉ blk v := fun b hb hx => n3 b hx b hb rfl
  have e : (bss ++ [bs]).flatten = bss.flatten ++ bs := by simp
  refine ⟨BuiltA.app (h1.grow hwa) (h2.grow hwa) h' ko hn hr (ho.below hba) hbx, ?_, ?_⟩
  · rw [e, List.nodup_append, List.nodup_append]
    refine ⟨?_, ⟨n2, hfr.1, fun x hx y hy e => ?_⟩, fun x hx y hy e => ?_⟩
    · rcases h'.form with ⟨rfl, _⟩ | ⟨g, cap, rfl, _, _⟩ <;> simp [blk]
    · have := (h7 x hx).2; have := hfr.lo y hy; omega
    · subst e
      rcases hv' x hx with hx | hx
      · rcases List.mem_append.1 hy with hy | hy
        · exact n3 x hx x hy rfl
        · exact hbx x hy hx
      · rcases List.mem_append.1 hy with hy | hy
        · have := (h7 x hy).2; omega
        · have := (hfr.2 x hy).2; omega
  · intro b hb
    rw [e] at hb
    rcases List.mem_append.1 hb with hb | hb
    · have := h7 b hb; omega
    · have := hfr.2 b hb; omega
theorem OutInv.done {E : TypeId} {W w : World} {v : Value} {l : List AtomD} {bss : List (List Nat)} (h : OutInv E W w v l bss) : ∃ bs, ROAtomS w v l bs ∧ Fresh W w bs := by
  obtain ⟨bs, h1, h2, _⟩ := h.1.owns h.2.1 h.2.2
  exact ⟨bs, h1, h2⟩
end Go.Proofs.Ytpedpbbiamhgdaa

/-! PartA -/
namespace Go.Proofs.Ytpedpbbiamhgdaa
open Go.RowKit
set_option linter.unusedVariables false

def PartA (E : TypeId) (W w : World) (g n : Nat) (l : List AtomD) (bss : List (List Nat)) : Prop :=
  ∃ cs, BuiltC E 2 W w (.slice (some ⟨g, 0, none⟩) n n) n cs ∧ Els w cs l bss ∧ l.length ≤ n ∧ (g :: bss.flatten).Nodup ∧ (∀ b ∈ bss.flatten, W.heap.size ≤ b ∧ b < w.heap.size)
theorem PartA.made {E : TypeId} {W w : World} {g n : Nat} {cs : List Value} (h : BuiltC E 2 W w (.slice (some ⟨g, 0, none⟩) n n) n cs) : PartA E W w g n [] [] :=
  ⟨cs, h, ⟨rfl, fun j d h => by simp at h⟩, Nat.zero_le _, by simp, fun b hb => by simp at hb⟩
theorem PartA.below {E : TypeId} {W w : World} {g n : Nat} {l : List AtomD} {bss : List (List Nat)} (h : PartA E W w g n l bss) : Below W.heap.size W w := by
  obtain ⟨cs, h1, _⟩ := h; exact h1.2
theorem PartA.grow {E : TypeId} {W w w' : World} {g n : Nat} {l : List AtomD} {bss : List (List Nat)} (h : PartA E W w g n l bss) (hb : Below w.heap.size w w') : PartA E W w' g n l bss := by
  obtain ⟨cs, h1, h2, h3, h4, h5⟩ := h
  exact ⟨cs, h1.grow hb, h2.grow hb, h3, h4, fun b hx => ⟨(h5 b hx).1, Nat.lt_of_lt_of_le (h5 b hx).2 hb.size⟩⟩
theorem PartA.lt {E : TypeId} {W w : World} {g n : Nat} {l : List AtomD} {bss : List (List Nat)} (h : PartA E W w g n l bss) : W.heap.size ≤ g ∧ g < w.heap.size := by
  obtain ⟨cs, h1, _⟩ := h; exact h1.lt
theorem PartA.cells {E : TypeId} {W w : World} {g n : Nat} {l : List AtomD} {bss : List (List Nat)} (h : PartA E W w g n l bss) (i : Nat) (hi : i < n) : ∃ u v, w.cell? ⟨g, i * 2, none⟩ = some u ∧ w.cell? ⟨g, i * 2 + 1, none⟩ = some v := by
  obtain ⟨cs, h1, _⟩ := h
  have hl := h1.len
  refine ⟨cs[i * 2]'(by omega), cs[i * 2 + 1]'(by omega), ?_, ?_⟩
  · rw [h1.cell _ (by omega)]; exact List.getElem?_eq_getElem _
  · rw [h1.cell _ (by omega)]; exact List.getElem?_eq_getElem _
theorem PartA.frozen {E : TypeId} {W w : World} {g n : Nat} {l : List AtomD} {bss : List (List Nat)} (h : PartA E W w g n l bss) (j : Nat) : w.frozen? ⟨g, j, none⟩ = false := by
  obtain ⟨cs, h1, _⟩ := h; exact h1.frozen j
theorem PartA.step {E : TypeId} {W w w2 : World} {g n : Nat} {l : List AtomD} {bss : List (List Nat)} {i : Nat} {a : Option Addr} {m c : Nat} {li : List Int} {bs : List Nat} {r : Int}
    (h : PartA E W w g n l bss) (hi : l.length = i) (hlt : i < n) (hb : Below w.heap.size w w2) (ho : OInts w2 (.slice a m c) li bs) (hfr : Fresh w w2 bs) (hr : inI r) :
    PartA E W ((w2.setCell ⟨g, i * 2, none⟩ (.int .i64 r)).setCell ⟨g, i * 2 + 1, none⟩ (.slice a m c)) g n (l ++ [(r, li)]) (bss ++ [bs]) := by
  subst hi
  obtain ⟨cs, h1, h2, h3, h4, h5⟩ := h
  have hlen := h1.len
  have hg := h1.lt.2
  have k : OnlyAt [g] w2 ((w2.setCell ⟨g, l.length * 2, none⟩ (.int .i64 r)).setCell ⟨g, l.length * 2 + 1, none⟩ (.slice a m c)) := (OnlyAt.setCell _ _ _ _).same (OnlyAt.setCell _ _ _ _)
  have hgb : ∀ b ∈ bs, b ≠ g := fun b hx e => by have := hfr.lo b hx; omega
  have hgs : ∀ b ∈ bss.flatten, b ≠ g := fun b hx e => by
    rw [List.nodup_cons] at h4
    exact h4.1 (e ▸ hx)
  have hs2 : ((w2.setCell ⟨g, l.length * 2, none⟩ (.int .i64 r)).setCell ⟨g, l.length * 2 + 1, none⟩ (.slice a m c)).heap.size = w2.heap.size := by simp [World.setCell]
  refine ⟨(cs.set (l.length * 2) (.int .i64 r)).set (l.length * 2 + 1) (.slice a m c), ((h1.grow hb).store _ _).store _ _, ⟨by simp [h2.1], fun j d hd => ?_⟩, by simp; omega, ?_, fun b hx => ?_⟩
  · rcases Nat.lt_or_ge j l.length with hj | hj
    · rw [List.getElem?_append_left hj] at hd
      obtain ⟨a', n', c', e1, e2, e3, e4⟩ := h2.2 j d hd
      refine ⟨a', n', c', ?_, ?_, e3, ?_⟩
      · rw [List.getElem?_set_ne (by omega), List.getElem?_set_ne (by omega)]; exact e1
      · rw [List.getElem?_set_ne (by omega), List.getElem?_set_ne (by omega)]; exact e2
      · have e5 : (bss ++ [bs]).getD j [] = bss.getD j [] := by
          rw [List.getD_eq_getElem?_getD, List.getD_eq_getElem?_getD, List.getElem?_append_left (by rw [h2.1]; exact hj)]
        rw [e5]
        exact (e4.below hb).onlyAt k (fun x hx hm => hgs x (getD_mem_flatten hx) (by simpa using hm))
    · have hj2 : j = l.length := by
        have := (List.getElem?_eq_some_iff.1 hd).1
        simp at this; omega
      subst hj2
      have hd' : d = (r, li) := by simpa using hd.symm
      subst hd'
      refine ⟨a, m, c, ?_, ?_, hr, ?_⟩
      · rw [List.getElem?_set_ne (by omega), List.getElem?_set_self (by omega)]
      · rw [List.getElem?_set_self (by simp; omega)]
      · have e5 : (bss ++ [bs]).getD l.length [] = bs := by
          rw [List.getD_eq_getElem?_getD, List.getElem?_append_right (by rw [h2.1]; exact Nat.le_refl _), h2.1]; simp
        rw [e5]
        exact ho.onlyAt k (fun x hx hm => hgb x hx (by simpa using hm))
  · rw [List.nodup_cons] at h4 ⊢
    have e : (bss ++ [bs]).flatten = bss.flatten ++ bs := by simp
    rw [e, List.nodup_append, List.mem_append]
    refine ⟨?_, h4.2, hfr.1, fun x hx y hy e => ?_⟩
    · rintro (hx | hx)
      · exact h4.1 hx
      · exact hgb g hx rfl
    · have := (h5 x hx).2; have := hfr.lo y hy; omega
  · rw [hs2]
    have e : (bss ++ [bs]).flatten = bss.flatten ++ bs := by simp
    rw [e] at hx
    have hw := h1.2.size
    have := hb.size
    rcases List.mem_append.1 hx with hx | hx
    · have := h5 b hx; omega
    · have := hfr.2 b hx; omega
theorem PartA.done {E : TypeId} {W w : World} {g n : Nat} {l : List AtomD} {bss : List (List Nat)} (h : PartA E W w g n l bss) (hl : l.length = n) : ∃ bs, ROAtomS w (.slice (some ⟨g, 0, none⟩) n n) l bs ∧ Fresh W w bs := by
  obtain ⟨cs, h1, h2, h3, h4, h5⟩ := h
  subst hl
  have hA : BuiltA E W w (.slice (some ⟨g, 0, none⟩) l.length l.length) l bss := ⟨cs, h1, h2⟩
  obtain ⟨bs, b1, b2, _⟩ := hA.owns (by simpa [blk] using h4) h5
  exact ⟨bs, b1, b2⟩
/-- A store elsewhere. -/
theorem PartA.onlyAt {E : TypeId} {W w w' : World} {g n : Nat} {l : List AtomD} {bss : List (List Nat)} {bs' : List Nat} (h : PartA E W w g n l bss) (ko : OnlyAt bs' w w') (hW : ∀ x ∈ bs', W.heap.size ≤ x) (hv : g ∉ bs') (hn : ∀ b ∈ bss.flatten, b ∉ bs') : PartA E W w' g n l bss := by
  obtain ⟨cs, h1, h2, h3, h4, h5⟩ := h
  refine ⟨cs, ⟨⟨h1.1.1, ?_⟩, OnlyAt.below h1.2 ko hW⟩, ⟨h2.1, fun j d hd => ?_⟩, h3, h4, fun b hb => ⟨(h5 b hb).1, Nat.lt_of_lt_of_le (h5 b hb).2 ko.size⟩⟩
  · rcases h1.1.2 with h6 | ⟨g', cap, cur, e, h6, hg, h7⟩
    · exact .inl h6
    · cases e
      exact .inr ⟨g, _, cur, rfl, h6, by rw [ko.block g h1.lt.2 hv]; exact hg, h7⟩
  · obtain ⟨a, n, c, e1, e2, e3, e4⟩ := h2.2 j d hd
    exact ⟨a, n, c, e1, e2, e3, e4.onlyAt ko (fun x hx => hn x (getD_mem_flatten hx))⟩
end Go.Proofs.Ytpedpbbiamhgdaa
