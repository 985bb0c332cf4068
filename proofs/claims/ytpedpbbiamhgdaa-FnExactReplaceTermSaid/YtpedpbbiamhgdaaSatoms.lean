/- The laws' helpers on []Atom: szAtomS, toAtomS, eqAtomS. -/
import Derived.Test.YtpedpbbiamhgdaaRowO
import Derived.Test.YtpedpbbiamhgdaaMark
import Derived.Lib.QuietBelow
namespace Go.Proofs.Ytpedpbbiamhgdaa
open Go Go.Sort Go.RowKit
set_option linter.unusedVariables false

abbrev AtomD := Int × List Int
def CsAtom (w : World) (cs : List Value) (d : AtomD) : Prop := ∃ a n c, cs = [.int .i64 d.1, .slice a n c] ∧ inI d.1 ∧ Ints w (.slice a n c) d.2
def COAtom (w : World) (cs : List Value) (d : AtomD) (bs : List Nat) : Prop := ∃ a n c, cs = [.int .i64 d.1, .slice a n c] ∧ inI d.1 ∧ OInts w (.slice a n c) d.2 bs
theorem CsAtom.below {w w' : World} {cs : List Value} {d : AtomD} (h : CsAtom w cs d) (hb : Below w.heap.size w w') : CsAtom w' cs d := by
  obtain ⟨a, n, c, rfl, hi, h⟩ := h; exact ⟨a, n, c, rfl, hi, h.below hb⟩
theorem COAtom.below {w w' : World} {cs : List Value} {d : AtomD} {bs : List Nat} (h : COAtom w cs d bs) (hb : Below w.heap.size w w') : COAtom w' cs d bs := by
  obtain ⟨a, n, c, rfl, hi, h⟩ := h; exact ⟨a, n, c, rfl, hi, h.below hb⟩
theorem COAtom.onlyAt {w w' : World} {cs : List Value} {d : AtomD} {bs bs' : List Nat} (hn : ∀ b ∈ bs, b ∉ bs') (ko : OnlyAt bs' w w') (h : COAtom w cs d bs) : COAtom w' cs d bs := by
  obtain ⟨a, n, c, rfl, hi, h⟩ := h; exact ⟨a, n, c, rfl, hi, h.onlyAt ko hn⟩
theorem COAtom.rd {w : World} {cs : List Value} {d : AtomD} {bs : List Nat} (h : COAtom w cs d bs) : CsAtom w cs d := by
  obtain ⟨a, n, c, rfl, hi, h⟩ := h; exact ⟨a, n, c, rfl, hi, h.1⟩
def RdAtomS (w : World) (v : Value) (d : List AtomD) : Prop := ∃ a n c, v = .slice a n c ∧ RdSl 2 CsAtom w (.slice a n c) d
def ROAtomS (w : World) (v : Value) (d : List AtomD) (bs : List Nat) : Prop := ∃ a n c, v = .slice a n c ∧ ROSl 2 COAtom w (.slice a n c) d bs
theorem RdAtomS.below {w w' : World} {v : Value} {d : List AtomD} (h : RdAtomS w v d) (hb : Below w.heap.size w w') : RdAtomS w' v d := by
  obtain ⟨a, n, c, rfl, h⟩ := h; exact ⟨a, n, c, rfl, RdSl.below h (fun _ _ h => h.below hb) hb⟩
theorem ROAtomS.below {w w' : World} {v : Value} {d : List AtomD} {bs : List Nat} (h : ROAtomS w v d bs) (hb : Below w.heap.size w w') : ROAtomS w' v d bs := by
  obtain ⟨a, n, c, rfl, h⟩ := h; exact ⟨a, n, c, rfl, ROSl.below h hb (fun _ _ _ h => h.below hb)⟩
theorem ROAtomS.onlyAt {w w' : World} {v : Value} {d : List AtomD} {bs bs' : List Nat} (h : ROAtomS w v d bs) (ko : OnlyAt bs' w w') (hn : ∀ b ∈ bs, b ∉ bs') : ROAtomS w' v d bs := by
  obtain ⟨a, n, c, rfl, h⟩ := h; exact ⟨a, n, c, rfl, ROSl.onlyAt h ko hn (fun _ _ _ hn h => h.onlyAt hn ko)⟩
theorem ROAtomS.rd {w : World} {v : Value} {d : List AtomD} {bs : List Nat} (h : ROAtomS w v d bs) : RdAtomS w v d := by
  obtain ⟨a, n, c, rfl, h⟩ := h; exact ⟨a, n, c, rfl, ROSl.rd h (fun _ _ _ h => h.rd)⟩

def sumArgs (l : List AtomD) : Nat := (l.map (fun d => d.2.length)).sum
def sizeAtomS (l : List AtomD) : Nat := l.length + sumArgs l
theorem sumArgs_take {l : List AtomD} {i : Nat} {d : AtomD} (h : l[i]? = some d) : sumArgs (l.take (i + 1)) = sumArgs (l.take i) + d.2.length := by
  obtain ⟨hi, rfl⟩ := List.getElem?_eq_some_iff.1 h
  unfold sumArgs
  rw [List.take_succ_eq_append_getElem hi, List.map_append, List.sum_append]
  simp
theorem sumArgs_le (l : List AtomD) (i : Nat) : sumArgs (l.take i) ≤ sumArgs l := by
  induction l generalizing i with
  | nil => simp [sumArgs]
  | cons a l ih =>
    cases i with
    | zero => simp [sumArgs]
    | succ i => have := ih i; simp only [sumArgs, List.take_succ_cons, List.map_cons, List.sum_cons] at this ⊢; omega

/-- Element i of a read slice of atoms: its cells. -/
theorem atomAt {w : World} {b off n : Nat} {l : List AtomD} (hc : ∀ j d, l[j]? = some d → ∃ cs, cs.length = 2 ∧ (∀ i, i < 2 → w.cell? ⟨b, off + (j * 2 + i), none⟩ = cs[i]?) ∧ CsAtom w cs d) (i : Nat) (d : AtomD) (h : l[i]? = some d) :
    ∃ a m c, w.cell? ⟨b, off + i * 2, none⟩ = some (.int .i64 d.1) ∧ w.cell? ⟨b, off + i * 2 + 1, none⟩ = some (.slice a m c) ∧ inI d.1 ∧ Ints w (.slice a m c) d.2 := by
  obtain ⟨cs, h1, h2, a, m, c, rfl, h3, h4⟩ := hc i d h
  refine ⟨a, m, c, ?_, ?_, h3, h4⟩
  · have := h2 0 (by omega); simpa using this
  · have := h2 1 (by omega); rw [← Nat.add_assoc] at this; simpa using this

set_option maxHeartbeats 2000000 in
theorem szAtomSR (w : World) (v : Value) (l : List AtomD) (left : Int) (h : RdAtomS w v l) (h0 : 0 ≤ left) (h1 : left ≤ 1048576) :
    Calls Try.prog 72 #[v, .int .i64 left] w (GaveInt w (szOf left (sizeAtomS l))) := by
  obtain ⟨a, n, c, rfl, h⟩ := h
  obtain ⟨hl, hn, hm, hcell⟩ := h.at
  unfold maxLen at hm
  have HC := Lib.hid hcell
  have HL := Lib.hid hl
  have hz := Lib.hid (fun w r v l left a b c => szAtom_any w r v l left a b c)
  clear h hcell hl
  by_cases hneg : left - (n : Int) < 0
  · have HQ : Hid (szOf left (sizeAtomS l) = -1) := szOf_no (by have := HL.out; unfold sizeAtomS; omega)
    go_enter Try.func72, Try.ntmps72
    go_wp2_with fail
    go_ret
    exact ⟨ret_n HQ.out.symm, Below.refl _ _⟩
  · have q0 : decide (left - (n : Int) < 0) = false := decide_eq_false hneg
    have hpos : 0 ≤ left - (n : Int) := by omega
    clear hneg
    go_enter Try.func72, Try.ntmps72
    go_wp2_with fail
    go_loopw [1, 5] (fun lv iv wr => ∃ i : Nat, i ≤ n ∧ iv = .int .i64 i ∧ lv = .int .i64 (left - n - (sumArgs (l.take i) : Int)) ∧ 0 ≤ left - (n : Int) - (sumArgs (l.take i) : Int) ∧ Below w.heap.size w wr) (fun _ iv _ => n - (intOf iv).toNat)
    case atStart => exact ⟨0, by omega, rfl, by simp [sumArgs], by simpa [sumArgs] using hpos, Below.refl _ _⟩
    case round =>
      obtain ⟨i, hi, rfl, rfl, hnn, hb⟩ := hrel
      have HB := Lib.hid hb
      by_cases hlt : i < n
      · obtain ⟨b, off, rfl, hbw, hc⟩ := HC.out (by omega)
        obtain ⟨d, hd⟩ : ∃ d, l[i]? = some d := ⟨l[i]'(by rw [HL.out]; exact hlt), List.getElem?_eq_getElem (by rw [HL.out]; exact hlt)⟩
        obtain ⟨a', m', c', c0, c1, hdi, hints⟩ := atomAt (n := n) hc i d hd
        have HS := Lib.hid (sumArgs_take hd)
        have HT := Lib.hid (sumArgs_le l (i + 1))
        replace c0 := cellk hb c0
        replace c1 := cellk hb c1
        have HV := Lib.hid (hints.below hb)
        have hi0 : (0 : Int) ≤ i := by omega
        have hi1 : (i : Int) < n := by omega
        have hcall := Lib.hid (hz.out wr d.1 (.slice a' m' c') d.2 (left - n - (sumArgs (l.take i) : Int)) HV.out hnn (by omega))
        clear hc hbw hb hd hints hdi
        by_cases hov : left - n - (sumArgs (l.take i) : Int) - (d.2.length : Int) < 0
        · have HQ : Hid (szOf left (sizeAtomS l) = -1) := szOf_no (by have := HL.out; have := HS.out; have := HT.out; unfold sizeAtomS; omega)
          rw [szOf_no (by omega)] at hcall
          generalize sumArgs (l.take i) = s at *
          generalize d.1 = r at *
          clear hov HS HT HV
          go_wp2_with fail
          refine hcall.out.mono ?_
          rintro e w2 ⟨rfl, hb⟩
          have HB2 := Lib.hid (bnext HB.out hb)
          clear hb
          go_wp2_with fail
          go_ret
          exact ⟨ret_n HQ.out.symm, HB2.out⟩
        · rw [szOf_ok (by omega)] at hcall
          have hov2 : 0 ≤ left - n - (sumArgs (l.take i) : Int) - (d.2.length : Int) := by omega
          generalize sumArgs (l.take i) = s at *
          generalize d.2.length = dl at *
          generalize d.1 = r at *
          clear hov HT HV
          go_wp2_with fail
          refine hcall.out.mono ?_
          rintro e w2 ⟨rfl, hb⟩
          have HB2 := Lib.hid (bnext HB.out hb)
          clear hb
          go_wp2_with fail
          exact ⟨⟨i + 1, by omega, by simp, by rw [HS.out]; congr 1; omega, by rw [HS.out]; omega, HB2.out⟩, by simp [intOf]; omega⟩
      · obtain rfl : i = n := by omega
        have HQ : Hid (left - i - (sumArgs (l.take i) : Int) = szOf left (sizeAtomS l)) := by
          have := HL.out
          unfold Hid
          rw [List.take_of_length_le (by omega)] at hnn ⊢
          rw [szOf_ok (by unfold sizeAtomS; omega)]; unfold sizeAtomS; omega
        clear hb
        generalize sumArgs (l.take i) = s at *
        go_wp2_with fail
        go_ret
        exact ⟨ret_n HQ.out, HB.out⟩

theorem getElem_eq_of {l l' : List AtomD} (h : l.length = l'.length) (hj : ∀ (j : Nat) (d d' : AtomD), l[j]? = some d → l'[j]? = some d' → d = d') : l = l' := by
  refine List.ext_getElem h fun j h1 h2 => ?_
  exact hj j _ _ (List.getElem?_eq_getElem h1) (List.getElem?_eq_getElem h2)

set_option maxHeartbeats 4000000 in
theorem eqAtomS_any (w : World) (v v' : Value) (l l' : List AtomD) (h : RdAtomS w v l) (h' : RdAtomS w v' l') :
    Calls Try.prog 76 #[v, v'] w (GaveBool w (decide (l = l'))) := by
  obtain ⟨a, n, c, rfl, h⟩ := h
  obtain ⟨a', n', c', rfl, h'⟩ := h'
  obtain ⟨hl, hn, hm, hcell⟩ := h.at
  obtain ⟨hl', hn', hm', hcell'⟩ := h'.at
  unfold maxLen at hm hm'
  by_cases hne : n = n'
  · subst hne
    have HC := Lib.hid hcell
    have HC' := Lib.hid hcell'
    have HL := Lib.hid hl
    have HL' := Lib.hid hl'
    have hz := Lib.hid (fun w r r' v v' l l' a b => eqAtom_any w r r' v v' l l' a b)
    clear h h' hcell hcell' hl hl'
    go_enter Try.func76, Try.ntmps76
    go_wp2_with fail
    go_loopw [5] (fun iv wr => ∃ i : Nat, i ≤ n ∧ iv = .int .i64 i ∧ Below w.heap.size w wr ∧ Hid (∀ (j : Nat) (d d' : AtomD), j < i → l[j]? = some d → l'[j]? = some d' → d = d')) (fun iv _ => n - (intOf iv).toNat)
    case atStart => exact ⟨0, by omega, rfl, Below.refl _ _, fun j d d' hj => by omega⟩
    case round =>
      obtain ⟨i, hi, rfl, hb, HE⟩ := hrel
      have HB := Lib.hid hb
      by_cases hlt : i < n
      · obtain ⟨b, off, rfl, hbw, hc⟩ := HC.out (by omega)
        obtain ⟨b', off', rfl, hbw', hc'⟩ := HC'.out (by omega)
        obtain ⟨d, hd⟩ : ∃ d, l[i]? = some d := ⟨l[i]'(by rw [HL.out]; exact hlt), List.getElem?_eq_getElem (by rw [HL.out]; exact hlt)⟩
        obtain ⟨d', hd'⟩ : ∃ d, l'[i]? = some d := ⟨l'[i]'(by rw [HL'.out]; exact hlt), List.getElem?_eq_getElem (by rw [HL'.out]; exact hlt)⟩
        obtain ⟨ea, em, ec, c0, c1, hdi, hints⟩ := atomAt (n := n) hc i d hd
        obtain ⟨ea', em', ec', c0', c1', hdi', hints'⟩ := atomAt (n := n) hc' i d' hd'
        have k0 := cell_regrown (w := wr) (cellk hb c0)
        have k1 := cell_regrown (w := wr) (cellk hb c1)
        have k0' := cell_regrown (w := wr) (cellk hb c0')
        have k1' := cell_regrown (w := wr) (cellk hb c1')
        have HD := Lib.hid hd
        have HD' := Lib.hid hd'
        have hi0 : (0 : Int) ≤ i := by omega
        have hi1 : (i : Int) < n := by omega
        have hcall := Lib.hid (fun dn os => hz.out (grow (redrawn wr dn) os) d.1 d'.1 (.slice ea em ec) (.slice ea' em' ec') d.2 d'.2 (hints.below (hb.trans ((below_regrown wr dn os).mono hb.size))) (hints'.below (hb.trans ((below_regrown wr dn os).mono hb.size))))
        clear hc hc' hbw hbw' hb hd hd' hdi hdi' hints hints' c0 c1 c0' c1'
        by_cases heq : d = d'
        · have HQ := Lib.hid heq
          have e1 : decide (d.1 = d'.1 ∧ d.2 = d'.2) = true := decide_eq_true ⟨by rw [heq], by rw [heq]⟩
          rw [e1] at hcall
          clear e1 heq
          generalize d.1 = r at *
          generalize d'.1 = r' at *
          go_wp2_with fail
          refine wp_region_quiet_below (by kernel_rfl) (by kernel_rfl) ?_
          repeat (any_goals (first | go_big_quiet_step ((go_at_call 90; exact Calls.regrown_of (hcall.out _ _))) | quiet_step ((go_at_call 90; exact Calls.regrown_of (hcall.out _ _)))))
          refine wpQuiet_nil ?_
          intro _ hw'
          obtain ⟨⟨dq, osq⟩, hw''⟩ := hw'
          subst hw''
          go_wp2_with fail
          refine ⟨⟨i + 1, by omega, by simp, bnext HB.out (below_regrown _ _ _), fun j x x' hj h5 h6 => ?_⟩, by simp [intOf]; omega⟩
          rcases Nat.lt_or_ge j i with h7 | h7
          · exact HE.out j x x' h7 h5 h6
          · obtain rfl : j = i := by omega
            rw [HD.out] at h5; rw [HD'.out] at h6
            cases h5; cases h6; exact HQ.out
        · have HQ : Hid (decide (l = l') = false) := decide_eq_false (fun e => heq (by rw [e] at HD; exact Option.some.inj (HD.out.symm.trans HD'.out)))
          have e1 : decide (d.1 = d'.1 ∧ d.2 = d'.2) = false := decide_eq_false (fun e => heq (Prod.ext e.1 e.2))
          rw [e1] at hcall
          clear e1 heq
          generalize d.1 = r at *
          generalize d'.1 = r' at *
          go_wp2_with fail
          refine wp_region_quiet_below (by kernel_rfl) (by kernel_rfl) ?_
          repeat (any_goals (first | go_big_quiet_step ((go_at_call 90; exact Calls.regrown_of (hcall.out _ _))) | quiet_step ((go_at_call 90; exact Calls.regrown_of (hcall.out _ _)))))
          refine wpQuiet_nil ?_
          intro _ hw'
          obtain ⟨⟨dq, osq⟩, hw''⟩ := hw'
          subst hw''
          go_wp2_with fail
          go_ret
          exact ⟨ret_b HQ.out.symm, bnext HB.out (below_regrown _ _ _)⟩
      · obtain rfl : i = n := by omega
        have HQ : Hid (decide (l = l') = true) := decide_eq_true (getElem_eq_of (by rw [HL.out, HL'.out]) (fun j x x' h5 h6 => HE.out j x x' (by rw [← HL.out]; exact (List.getElem?_eq_some_iff.1 h5).1) h5 h6))
        clear hb
        go_wp2_with fail
        go_ret
        exact ⟨ret_b HQ.out.symm, HB.out⟩
  · have HQ : Hid (decide (l = l') = false) := decide_eq_false (fun e => hne (by rw [← hl, ← hl', e]))
    have q : ((n : Int) != n') = true := by simp; omega
    clear h h' hcell hcell' hl hl' hne
    go_enter Try.func76, Try.ntmps76
    go_wp2_with fail
    go_ret
    exact ⟨ret_b HQ.out.symm, Below.refl _ _⟩
theorem eqAtomSR (w : World) (v v' : Value) (d : List AtomD) (h : RdAtomS w v d) (h' : RdAtomS w v' d) :
    Calls Try.prog 76 #[v, v'] w (GaveBool w true) := by
  have := eqAtomS_any w v v' d d h h'
  rwa [decide_eq_true rfl] at this

theorem info_Atom : (Try.prog.info? 37).map (fun i => (i.zero, i.size, i.bytes)) = some (some (.agg #[.int .i64 0, .slice none 0 0]), 2, 32) := by kernel_rfl
/-- The blocks of a part that has been made between w and w'. -/
def Made (w w' : World) (bss : List (List Nat)) : Prop := bss.flatten.Nodup ∧ ∀ b ∈ bss.flatten, w.heap.size < b ∧ b < w'.heap.size
theorem flatten_set {bss : List (List Nat)} {i : Nat} {bs : List Nat} (hi : i < bss.length) (he : bss.getD i [] = []) : ∀ x, x ∈ (bss.set i bs).flatten ↔ x ∈ bss.flatten ∨ x ∈ bs := by
  induction bss generalizing i with
  | nil => simp at hi
  | cons a bss ih =>
    cases i with
    | zero =>
      have : a = [] := by simpa [List.getD] using he
      subst this
      intro x; simp [or_comm]
    | succ i =>
      intro x
      have := ih (i := i) (by simpa using hi) (by simpa [List.getD] using he) x
      simp only [List.set_cons_succ, List.flatten_cons, List.mem_append, this]
      simp only [or_assoc]
theorem nodup_set {bss : List (List Nat)} {i : Nat} {bs : List Nat} (hi : i < bss.length) (he : bss.getD i [] = []) (h : bss.flatten.Nodup) (hb : bs.Nodup) (hd : ∀ x ∈ bs, x ∉ bss.flatten) : (bss.set i bs).flatten.Nodup := by
  induction bss generalizing i with
  | nil => simp at hi
  | cons a bss ih =>
    rw [List.flatten_cons, List.nodup_append] at h
    cases i with
    | zero =>
      simp only [List.set_cons_zero, List.flatten_cons, List.nodup_append]
      refine ⟨hb, h.2.1, fun x hx y hy e => hd x hx ?_⟩
      rw [List.flatten_cons, List.mem_append]; right; rw [e]; exact hy
    | succ i =>
      have hi' : i < bss.length := by simpa using hi
      have he' : bss.getD i [] = [] := by simpa [List.getD] using he
      simp only [List.set_cons_succ, List.flatten_cons, List.nodup_append]
      refine ⟨h.1, ih hi' he' h.2.1 (fun x hx hm => hd x hx (by rw [List.flatten_cons, List.mem_append]; exact .inr hm)), fun x hx y hy e => ?_⟩
      rcases (flatten_set hi' he' y).1 hy with h5 | h5
      · exact h.2.2 x hx y h5 e
      · subst e; exact hd x h5 (by rw [List.flatten_cons, List.mem_append]; exact .inl hx)
theorem Made.set {w w1 w2 : World} {bss : List (List Nat)} {i : Nat} {bs : List Nat} (h : Made w w1 bss) (hi : i < bss.length) (he : bss.getD i [] = []) (hs : w.heap.size < w1.heap.size) (hf : Fresh w1 w2 bs) (h12 : w1.heap.size ≤ w2.heap.size) : Made w w2 (bss.set i bs) := by
  refine ⟨nodup_set hi he h.1 hf.1 (fun x hx hm => ?_), fun b hb => ?_⟩
  · have h5 := (hf.2 x hx).1
    have h6 := (h.2 x hm).2
    omega
  · rcases (flatten_set hi he b).1 hb with h5 | h5
    · have := h.2 b h5; omega
    · have := hf.2 b h5; omega
theorem madeAtoms (n t : Nat) (ht : t < n * 2) : (madeCells #[.int .i64 0, .slice none 0 0] (n * 2)).toList[t]? = some (if t % 2 = 0 then .int .i64 0 else .slice none 0 0) := by
  unfold madeCells
  simp only [Array.toList_map, Array.toList_range, List.getElem?_map, List.getElem?_range ht, Option.map_some]
  congr 1
  have h2 : t % 2 = 0 ∨ t % 2 = 1 := by omega
  rcases h2 with h | h
  · rw [if_pos h]; simp [h]
  · rw [if_neg (by omega)]; simp [h]
theorem zeroAtoms {w w1 : World} {n : Nat} (h : BuiltC 37 2 w w1 (.slice (some ⟨w.heap.size, 0, none⟩) n n) n (madeCells #[.int .i64 0, .slice none 0 0] (n * 2)).toList) : RowO 2 COAtom w1 w.heap.size 0 (List.replicate n ((0, []) : AtomD)) (List.replicate n []) := by
  refine ⟨by simp, h.lt.2, fun t ht => ?_, fun j d hd => ?_⟩
  · rw [Nat.zero_add]; exact h.frozen t
  · have hj : j < n := by
      rcases Nat.lt_or_ge j n with h5 | h5
      · exact h5
      · rw [List.getElem?_eq_none (by simpa using h5)] at hd; cases hd
    rw [List.getElem?_replicate, if_pos hj] at hd
    cases hd
    refine ⟨[.int .i64 0, .slice none 0 0], rfl, fun e he => ?_, none, 0, 0, rfl, ⟨by decide, by decide⟩, Ints.nil _, .inl ⟨none, 0, rfl, ?_⟩⟩
    · rw [Nat.zero_add, h.cell _ (by omega), madeAtoms _ _ (by omega)]
      have : e = 0 ∨ e = 1 := by omega
      rcases this with rfl | rfl
      · rw [if_pos (by omega)]; rfl
      · rw [if_neg (by omega)]; rfl
    · rw [List.getD_eq_getElem?_getD, List.getElem?_replicate]; split <;> rfl
theorem take_set {l : List AtomD} {n i : Nat} {z d : AtomD} (hl : l.length = n) (hi : i < n) (hd : l[i]? = some d) : (l.take i ++ List.replicate (n - i) z).set i d = l.take (i + 1) ++ List.replicate (n - (i + 1)) z := by
  obtain ⟨hi2, rfl⟩ := List.getElem?_eq_some_iff.1 hd
  rw [List.set_append_right _ _ (by rw [List.length_take]; omega), List.length_take, Nat.min_eq_left (by omega), Nat.sub_self, show n - i = (n - (i + 1)) + 1 from by omega, List.replicate_succ, List.set_cons_zero, List.take_succ_eq_append_getElem hi2, List.append_assoc]
  rfl
/-- One round of toAtomS: element i of the row is laid. -/
theorem atomLaid {w2 : World} {g : Nat} {l : List AtomD} {bss : List (List Nat)} {i : Nat} {r : Int} {a : Option Addr} {n c : Nat} {li : List Int} {bs : List Nat} (h : RowO 2 COAtom w2 g 0 l bss) (hi : i < l.length)
    (hlo : ∀ x ∈ bss.flatten, g < x) (hr : inI r) (ho : OInts w2 (.slice a n c) li bs) (hb : ∀ x ∈ bs, g < x) :
    RowO 2 COAtom ((w2.setCell ⟨g, i * 2, none⟩ (.int .i64 r)).setCell ⟨g, i * 2 + 1, none⟩ (.slice a n c)) g 0 (l.set i (r, li)) (bss.set i bs) := by
  obtain ⟨cs, k1, k2, xa, xn, xc, rfl, _, _⟩ := h.2.2.2 i l[i] (List.getElem?_eq_getElem hi)
  have q0 : w2.cell? ⟨g, i * 2, none⟩ = some (.int .i64 l[i].1) := by have := k2 0 (by omega); simpa using this
  have q1 : w2.cell? ⟨g, i * 2 + 1, none⟩ = some (.slice xa xn xc) := by have := k2 1 (by omega); simpa using this
  have hne : ∀ {x y : Nat}, x ≠ y → (⟨g, x, none⟩ : Addr) ≠ ⟨g, y, none⟩ := fun h e => h (congrArg Addr.off e)
  refine h.upd (by simp [World.setCell]) i hi (r, li) bs [.int .i64 r, .slice a n c] (fun t _ => by rw [World.frozen?_setCell, World.frozen?_setCell]) (fun t ht => ?_) rfl (fun e he => ?_) ⟨a, n, c, rfl, hr, ?_⟩ (fun j cs d hj hd hc => ?_)
  · rw [Nat.zero_add, World.cell?_setCell_other _ _ _ _ (hne (by omega)), World.cell?_setCell_other _ _ _ _ (hne (by omega))]
  · rw [Nat.zero_add]
    have : e = 0 ∨ e = 1 := by omega
    rcases this with rfl | rfl
    · show World.cell? _ ⟨g, i * 2, none⟩ = _
      rw [World.cell?_setCell_other _ _ _ _ (hne (by omega)), World.cell?_setCell_same _ _ _ q0]; rfl
    · refine World.cell?_setCell_same (u := .slice xa xn xc) _ _ _ ?_
      rw [World.cell?_setCell_other _ _ _ _ (hne (by omega))]; exact q1
  · exact (ho.setCell (B := g + 1) (fun x hx => hb x hx) _ _ _ (by omega)).setCell (B := g + 1) (fun x hx => hb x hx) _ _ _ (by omega)
  · have hnb : ∀ b ∈ bss.getD j [], b ∉ [g] := fun b hb' hm => by
      have h5 := hlo b (getD_mem_flatten hb')
      simp at hm; omega
    exact (hc.onlyAt hnb (OnlyAt.setCell _ _ _ _)).onlyAt hnb (OnlyAt.setCell _ _ _ _)

set_option maxHeartbeats 4000000 in
theorem toAtomSO (w : World) (v : Value) (l : List AtomD) (h : RdAtomS w v l) (hs : sizeAtomS l ≤ 1048576) :
    Calls Try.prog 74 #[v] w (GaveO (fun w' v bs => ROAtomS w' v l bs) w) := by
  obtain ⟨a, n, c, rfl, h⟩ := h
  obtain ⟨hl, hn, hm, hcell⟩ := h.at
  have hnl : n ≤ 1048576 := by unfold sizeAtomS at hs; omega
  unfold maxLen at hm
  have HC := Lib.hid hcell
  have HL := Lib.hid hl
  have HSZ := Lib.hid hs
  have hz := Lib.hid (fun w r v l a b => toAtom_any w r v l a b)
  clear h hcell hl hs
  go_enter Try.func74, Try.ntmps74
  go_wp2_with (at_make; refine wpList_make_C rfl (.tmp 6) (.tmp 6) 28 rfl 37 (.agg #[.int .i64 0, .slice none 0 0]) 2 32 Try.underlying28 info_Atom (by decide) (by decide) (Below.refl _ w) .i64 .i64 n rfl rfl (by omega) ?_)
  intro w1 hb1
  have HB1 := Lib.hid hb1
  have hrow : RowO 2 COAtom w1 w.heap.size 0 (List.replicate n ((0, []) : AtomD)) (List.replicate n []) := zeroAtoms hb1
  have HR1 := Lib.hid hrow
  clear hb1 hrow
  go_wp2_with fail
  go_loopw [4] (fun iv wr => ∃ (i : Nat) (bss : List (List Nat)), i ≤ n ∧ iv = .int .i64 i ∧ RowO 2 COAtom wr w.heap.size 0 (l.take i ++ List.replicate (n - i) ((0, []) : AtomD)) bss ∧ Made w wr bss ∧ Hid (∀ j, i ≤ j → bss.getD j [] = []) ∧ Below w.heap.size w wr) (fun iv _ => n - (intOf iv).toNat)
  case atStart =>
    exact ⟨0, List.replicate n [], by omega, rfl, by simpa using HR1.out, ⟨by simp, by simp⟩, fun j _ => by simp [List.getD, List.getElem?_replicate]; split <;> rfl, HB1.out.2⟩
  case round =>
    obtain ⟨i, bss, hi, rfl, hrow, hmade, HE, hb⟩ := hrel
    have HB := Lib.hid hb
    have HROW := Lib.hid hrow
    have HMADE := Lib.hid hmade
    by_cases hlt : i < n
    · obtain ⟨b, off, rfl, hbw, hc⟩ := HC.out (by omega)
      have hil : i < l.length := by rw [HL.out]; exact hlt
      obtain ⟨d, hd⟩ : ∃ d, l[i]? = some d := ⟨l[i]'hil, List.getElem?_eq_getElem hil⟩
      obtain ⟨ea, em, ec, c0, c1, hdi, hints⟩ := atomAt (n := n) hc i d hd
      replace c0 := cellk hb c0
      replace c1 := cellk hb c1
      have hi0 : (0 : Int) ≤ i := by omega
      have hi1 : (i : Int) < n := by omega
      have hdl : d.2.length ≤ 1048576 := by
        have h5 := sumArgs_take hd; have h6 := sumArgs_le l (i + 1); have := HSZ.out; unfold sizeAtomS at this; omega
      have hcall := Lib.hid (hz.out wr d.1 (.slice ea em ec) d.2 (hints.below hb) hdl)
      have HD := Lib.hid hd
      have HDI := Lib.hid hdi
      clear hc hbw hb hd hdi hints hdl hrow hmade
      generalize hr : d.1 = r at *
      have HRR := Lib.hid hr
      clear hr
      go_wp2_with fail
      refine hcall.out.mono ?_
      rintro e w2 ⟨v2, bs2, rfl, ⟨a2, n2, c2, rfl, ho2⟩, hfr2, hb2⟩
      have hrow2 := HROW.out.keep hb2.size (hb2.block _ HROW.out.2.1) (fun j cs d _ h => h.below hb2)
      have hlen : (l.take i ++ List.replicate (n - i) ((0, []) : AtomD)).length = n := by have := HL.out; simp; omega
      have hgi : (l.take i ++ List.replicate (n - i) ((0, []) : AtomD))[i]? = some (0, []) := by
        rw [List.getElem?_append_right (by simp; omega)]
        simp [List.getElem?_replicate]; omega
      obtain ⟨cs, h1, h2, xa, xn, xc, rfl, _, _⟩ := hrow2.2.2.2 i _ hgi
      have q0 : w2.cell? ⟨w.heap.size, i * 2, none⟩ = some (.int .i64 0) := by have := h2 0 (by omega); simpa using this
      have q1 : w2.cell? ⟨w.heap.size, i * 2 + 1, none⟩ = some (.slice xa xn xc) := by have := h2 1 (by omega); simpa using this
      have f0 : w2.frozen? ⟨w.heap.size, i * 2, none⟩ = false := by have := hrow2.2.2.1 (i * 2) (by rw [hlen]; omega); simpa using this
      have f1 : w2.frozen? ⟨w.heap.size, i * 2 + 1, none⟩ = false := by have := hrow2.2.2.1 (i * 2 + 1) (by rw [hlen]; omega); simpa using this
      have HROW2 := Lib.hid hrow2
      have HO2 := Lib.hid ho2
      have HF2 := Lib.hid hfr2
      have HB2 := Lib.hid (bnext HB.out hb2)
      have HS2 := Lib.hid hb2.size
      have HLEN := Lib.hid hlen
      have Q0 := Lib.hid q0
      have Q1 := Lib.hid q1
      clear hb2 hrow2 hlen hgi h1 h2 ho2 hfr2
      go_wp2_with fail
      have hW := atomLaid (i := i) HROW2.out (by rw [HLEN.out]; exact hlt) (fun x hx => (HMADE.out.2 x hx).1) HDI.out HO2.out (fun x hx => Nat.lt_of_lt_of_le HROW.out.2.1 (HF2.out.lo x hx))
      have hlb : i < bss.length := by rw [HROW.out.1, HLEN.out]; exact hlt
      rw [take_set HL.out hlt (by rw [HD.out]; congr 1; exact Prod.ext HRR.out rfl)] at hW
      refine ⟨⟨i + 1, bss.set i bs2, by omega, by simp, hW, ?_, fun j hj => ?_, (HB2.out.setCell (by simp) _).setCell (by simp) _⟩, by simp [intOf]; omega⟩
      · exact HMADE.out.set hlb (HE.out i (Nat.le_refl _)) HROW.out.2.1 (HF2.out.wide (Nat.le_refl _) (by simp [World.setCell])) (by simp [World.setCell]; exact HS2.out)
      · rw [List.getD_eq_getElem?_getD, List.getElem?_set_ne (by omega), ← List.getD_eq_getElem?_getD]
        exact HE.out j (by omega)
    · obtain rfl : i = n := by omega
      have hW := HROW.out
      rw [List.take_of_length_le (by rw [HL.out]; exact Nat.le_refl _), Nat.sub_self, List.replicate_zero, List.append_nil] at hW
      have HW := Lib.hid hW
      clear hb hrow hmade hW
      go_wp2_with fail
      go_ret
      by_cases h0 : i = 0
      · subst h0
        have hl0 : l = [] := List.eq_nil_of_length_eq_zero HL.out
        exact ⟨_, [], rfl, ⟨_, _, _, rfl, .inl ⟨_, _, rfl, Nat.zero_le _, hl0, rfl⟩⟩, ⟨by simp, fun b hb => by simp at hb⟩, HB.out⟩
      · refine ⟨_, w.heap.size :: bss.flatten, rfl, ⟨_, _, _, rfl, .inr ⟨_, _, _, _, bss, rfl, HL.out, by omega, Nat.le_refl _, by unfold maxLen; omega, rfl, HW.out⟩⟩, ⟨?_, fun b hb => ?_⟩, HB.out⟩
        · rw [List.nodup_cons]
          exact ⟨fun hm => by have := (HMADE.out.2 _ hm).1; omega, HMADE.out.1⟩
        · rcases List.mem_cons.1 hb with rfl | hb
          · exact ⟨Nat.le_refl _, HW.out.2.1⟩
          · have := HMADE.out.2 b hb; omega
theorem toAtomSR (w : World) (v : Value) (d : List AtomD) (h : RdAtomS w v d) (hl : sizeAtomS d ≤ 1048576) :
    Calls Try.prog 74 #[v] w (GaveD (fun w' v => RdAtomS w' v d) w) :=
  (toAtomSO w v d h hl).mono fun e w' ⟨v, bs, he, hr, _, hb⟩ => ⟨v, he, hr.rd, hb⟩
end Go.Proofs.Ytpedpbbiamhgdaa
