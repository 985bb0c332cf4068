/- The laws' helpers on []Counted: what it reads as, eqCountedS, szCountedS, toCountedS. -/
import Derived.Test.YtfojllkkbdpfkaaGreatSfact
import Derived.Test.YtfojllkkbdpfkaaGreatOpenAll
import Derived.Lib.QuietBelow
namespace Go.Proofs.YtfojllkkbdpfkaaGreat
open Go Go.Sort Go.RowKit Go.ChangeShapes Go.WideShapes Go.Deep
set_option linter.unusedVariables false

/-- A tuple and how often it comes. -/
abbrev CntD := List Int × Int
def CsCnt (w : World) (cs : List Value) (d : CntD) : Prop := ∃ a n c, cs = [.slice a n c, .int .i64 d.2] ∧ inI d.2 ∧ Ints w (.slice a n c) d.1
def COCnt (w : World) (cs : List Value) (d : CntD) (bs : List Nat) : Prop := ∃ a n c, cs = [.slice a n c, .int .i64 d.2] ∧ inI d.2 ∧ OInts w (.slice a n c) d.1 bs

theorem CsCnt.below {w w' : World} {cs : List Value} {d : CntD} (h : CsCnt w cs d) (hb : Below w.heap.size w w') : CsCnt w' cs d := by
  obtain ⟨a, n, c, rfl, hi, h⟩ := h; exact ⟨a, n, c, rfl, hi, h.below hb⟩
theorem COCnt.below {w w' : World} {cs : List Value} {d : CntD} {bs : List Nat} (h : COCnt w cs d bs) (hb : Below w.heap.size w w') : COCnt w' cs d bs := by
  obtain ⟨a, n, c, rfl, hi, h⟩ := h; exact ⟨a, n, c, rfl, hi, h.below hb⟩
theorem COCnt.onlyAt {w w' : World} {cs : List Value} {d : CntD} {bs bs' : List Nat} (hn : ∀ b ∈ bs, b ∉ bs') (ko : OnlyAt bs' w w') (h : COCnt w cs d bs) : COCnt w' cs d bs := by
  obtain ⟨a, n, c, rfl, hi, h⟩ := h; exact ⟨a, n, c, rfl, hi, h.onlyAt ko hn⟩
theorem COCnt.rd {w : World} {cs : List Value} {d : CntD} {bs : List Nat} (h : COCnt w cs d bs) : CsCnt w cs d := by
  obtain ⟨a, n, c, rfl, hi, h⟩ := h; exact ⟨a, n, c, rfl, hi, h.1⟩
def RdCountedS (w : World) (v : Value) (d : List CntD) : Prop := ∃ a n c, v = .slice a n c ∧ RdSl 2 CsCnt w (.slice a n c) d
def ROCountedS (w : World) (v : Value) (d : List CntD) (bs : List Nat) : Prop := ∃ a n c, v = .slice a n c ∧ ROSl 2 COCnt w (.slice a n c) d bs
theorem RdCountedS.below {w w' : World} {v : Value} {d : List CntD} (h : RdCountedS w v d) (hb : Below w.heap.size w w') : RdCountedS w' v d := by
  obtain ⟨a, n, c, rfl, h⟩ := h; exact ⟨a, n, c, rfl, RdSl.below h (fun _ _ h => h.below hb) hb⟩
theorem ROCountedS.below {w w' : World} {v : Value} {d : List CntD} {bs : List Nat} (h : ROCountedS w v d bs) (hb : Below w.heap.size w w') : ROCountedS w' v d bs := by
  obtain ⟨a, n, c, rfl, h⟩ := h; exact ⟨a, n, c, rfl, ROSl.below h hb (fun _ _ _ h => h.below hb)⟩
theorem ROCountedS.onlyAt {w w' : World} {v : Value} {d : List CntD} {bs bs' : List Nat} (h : ROCountedS w v d bs) (ko : OnlyAt bs' w w') (hn : ∀ b ∈ bs, b ∉ bs') : ROCountedS w' v d bs := by
  obtain ⟨a, n, c, rfl, h⟩ := h; exact ⟨a, n, c, rfl, ROSl.onlyAt h ko hn (fun _ _ _ hn h => h.onlyAt hn ko)⟩
theorem ROCountedS.rd {w : World} {v : Value} {d : List CntD} {bs : List Nat} (h : ROCountedS w v d bs) : RdCountedS w v d := by
  obtain ⟨a, n, c, rfl, h⟩ := h; exact ⟨a, n, c, rfl, ROSl.rd h (fun _ _ _ h => h.rd)⟩


/-- Element i of a read slice: its cells. -/
theorem cntAt {w : World} {b off n : Nat} {l : List CntD} (hc : ∀ j d, l[j]? = some d → ∃ cs, cs.length = 2 ∧ (∀ i, i < 2 → w.cell? ⟨b, off + (j * 2 + i), none⟩ = cs[i]?) ∧ CsCnt w cs d) (i : Nat) (d : CntD) (h : l[i]? = some d) :
    ∃ a m c, w.cell? ⟨b, off + i * 2, none⟩ = some (.slice a m c) ∧ w.cell? ⟨b, off + i * 2 + 1, none⟩ = some (.int .i64 d.2) ∧ inI d.2 ∧ Ints w (.slice a m c) d.1 := by
  obtain ⟨cs, h1, h2, a, m, c, rfl, h3, h4⟩ := hc i d h
  refine ⟨a, m, c, ?_, ?_, h3, h4⟩
  · have := h2 0 (by omega); simpa using this
  · have := h2 1 (by omega); rw [← Nat.add_assoc] at this; simpa using this

set_option maxHeartbeats 1000000 in
theorem eqCounted_any (w : World) (r r' : Int) (v v' : Value) (l l' : List Int) (h : Ints w v l) (h' : Ints w v' l') :
    Calls Tryz.prog 79 #[.agg #[v, .int .i64 r], .agg #[v', .int .i64 r']] w (GaveBool w (decide (l = l' ∧ r = r'))) := by
  have hb0 : ∀ a b, Below w.heap.size w ((w.alloc a).alloc b) := fun a b => ((Below.refl _ _).alloc (Nat.le_refl _) _).alloc (by simp) _
  have hE := Lib.hid (fun a b => eqIntS_any _ v v' l l' (h.below (hb0 a b)) (h'.below (hb0 a b)))
  have HB0 := Lib.hid hb0
  have c1 : ∀ a b, ((w.alloc (.cells #[a, .int .i64 r] 98)).alloc (.cells #[b, .int .i64 r'] 98)).cell? ⟨w.heap.size, 1, none⟩ = some (.int .i64 r) := fun a b => by simp
  have c2 : ∀ a b, ((w.alloc (.cells #[a, .int .i64 r] 98)).alloc (.cells #[b, .int .i64 r'] 98)).cell? ⟨w.heap.size + 1, 1, none⟩ = some (.int .i64 r') := fun a b => by simp
  clear h h' hb0
  by_cases hl : l = l'
  · rw [decide_eq_true hl] at hE
    by_cases hr : r = r'
    · have HQ : Hid (decide (l = l' ∧ r = r') = true) := decide_eq_true ⟨hl, hr⟩
      subst hr
      clear hl
      go_enter Tryz.func79, Tryz.ntmps79
      go_wp2_with fail
      refine (hE.out _ _).mono ?_
      rintro e w1 ⟨rfl, hb⟩
      have HB := Lib.hid (bnext (HB0.out _ _) hb)
      have k1 := cellk hb (c1 _ _)
      have k2 := cellk hb (c2 _ _)
      clear hb c1 c2
      go_wp2_with fail
      go_ret
      exact ⟨ret_b HQ.out.symm, HB.out⟩
    · have HQ : Hid (decide (l = l' ∧ r = r') = false) := decide_eq_false (fun h => hr h.2)
      have q : (r != r') = true := bne_iff_ne.2 hr
      clear hl hr
      go_enter Tryz.func79, Tryz.ntmps79
      go_wp2_with fail
      refine (hE.out _ _).mono ?_
      rintro e w1 ⟨rfl, hb⟩
      have HB := Lib.hid (bnext (HB0.out _ _) hb)
      have k1 := cellk hb (c1 _ _)
      have k2 := cellk hb (c2 _ _)
      clear hb c1 c2
      go_wp2_with fail
      go_ret
      exact ⟨ret_b HQ.out.symm, HB.out⟩
  · rw [decide_eq_false hl] at hE
    have HQ : Hid (decide (l = l' ∧ r = r') = false) := decide_eq_false (fun h => hl h.1)
    clear hl c1 c2
    go_enter Tryz.func79, Tryz.ntmps79
    go_wp2_with fail
    refine (hE.out _ _).mono ?_
    rintro e w1 ⟨rfl, hb⟩
    have HB := Lib.hid (bnext (HB0.out _ _) hb)
    clear hb
    go_wp2_with fail
    go_ret
    exact ⟨ret_b HQ.out.symm, HB.out⟩

theorem getElem_eq_cnt {l l' : List CntD} (h : l.length = l'.length) (hj : ∀ (j : Nat) (d d' : CntD), l[j]? = some d → l'[j]? = some d' → d = d') : l = l' := by
  refine List.ext_getElem h fun j h1 h2 => ?_
  exact hj j _ _ (List.getElem?_eq_getElem h1) (List.getElem?_eq_getElem h2)

set_option maxHeartbeats 4000000 in
theorem eqCountedS_any (w : World) (v v' : Value) (l l' : List CntD) (h : RdCountedS w v l) (h' : RdCountedS w v' l') :
    Calls Tryz.prog 30 #[v, v'] w (GaveBool w (decide (l = l'))) := by
  obtain ⟨a, n, c, rfl, h⟩ := h
  obtain ⟨a', n', c', rfl, h'⟩ := h'
  obtain ⟨hl, hn, hm, hcell⟩ := h.at
  obtain ⟨hl', hn', hm', hcell'⟩ := h'.at
  unfold maxLen at hm hm'
  by_cases hne : n = n'
  · subst hne
    have HC := Lib.hid hcell
    have HC' := Lib.hid hcell'
    have HL := Lib.hid hl
    have HL' := Lib.hid hl'
    have hz := Lib.hid (fun w r r' v v' l l' a b => eqCounted_any w r r' v v' l l' a b)
    clear h h' hcell hcell' hl hl'
    go_enter Tryz.func30, Tryz.ntmps30
    go_wp2_with fail
    go_loopw [5] (fun iv wr => ∃ i : Nat, i ≤ n ∧ iv = .int .i64 i ∧ Below w.heap.size w wr ∧ Hid (∀ (j : Nat) (d d' : CntD), j < i → l[j]? = some d → l'[j]? = some d' → d = d')) (fun iv _ => n - (intOf iv).toNat)
    case atStart => exact ⟨0, by omega, rfl, Below.refl _ _, fun j d d' hj => by omega⟩
    case round =>
      obtain ⟨i, hi, rfl, hb, HE⟩ := hrel
      have HB := Lib.hid hb
      by_cases hlt : i < n
      · obtain ⟨b, off, rfl, hbw, hc⟩ := HC.out (by omega)
        obtain ⟨b', off', rfl, hbw', hc'⟩ := HC'.out (by omega)
        obtain ⟨d, hd⟩ : ∃ d, l[i]? = some d := ⟨l[i]'(by rw [HL.out]; exact hlt), List.getElem?_eq_getElem (by rw [HL.out]; exact hlt)⟩
        obtain ⟨d', hd'⟩ : ∃ d, l'[i]? = some d := ⟨l'[i]'(by rw [HL'.out]; exact hlt), List.getElem?_eq_getElem (by rw [HL'.out]; exact hlt)⟩
        obtain ⟨ea, em, ec, c0, c1, hdi, hints⟩ := cntAt (n := n) hc i d hd
        obtain ⟨ea', em', ec', c0', c1', hdi', hints'⟩ := cntAt (n := n) hc' i d' hd'
        have k0 := cell_regrown (w := wr) (cellk hb c0)
        have k1 := cell_regrown (w := wr) (cellk hb c1)
        have k0' := cell_regrown (w := wr) (cellk hb c0')
        have k1' := cell_regrown (w := wr) (cellk hb c1')
        have HD := Lib.hid hd
        have HD' := Lib.hid hd'
        have hi0 : (0 : Int) ≤ i := by omega
        have hi1 : (i : Int) < n := by omega
        have hcall := Lib.hid (fun dn os => hz.out (grow (redrawn wr dn) os) d.2 d'.2 (.slice ea em ec) (.slice ea' em' ec') d.1 d'.1 (hints.below (hb.trans ((below_regrown wr dn os).mono hb.size))) (hints'.below (hb.trans ((below_regrown wr dn os).mono hb.size))))
        clear hc hc' hbw hbw' hb hd hd' hdi hdi' hints hints' c0 c1 c0' c1'
        by_cases heq : d = d'
        · have HQ := Lib.hid heq
          have e1 : decide (d.1 = d'.1 ∧ d.2 = d'.2) = true := decide_eq_true ⟨by rw [heq], by rw [heq]⟩
          rw [e1] at hcall
          clear e1 heq
          generalize d.2 = r at *
          generalize d'.2 = r' at *
          go_wp2_with fail
          refine wp_region_quiet_below (by kernel_rfl) (by kernel_rfl) ?_
          repeat (any_goals (first | go_big_quiet_step ((go_at_call 79; exact Calls.regrown_of (hcall.out _ _))) | quiet_step ((go_at_call 79; exact Calls.regrown_of (hcall.out _ _)))))
          refine wpQuiet_nil ?_
          intro _ hw'
          obtain ⟨⟨dq, osq⟩, hw''⟩ := hw'
          subst hw''
          go_wp2_with fail
          refine ⟨⟨i + 1, by omega, by simp, bnext HB.out (below_regrown _ _ _), fun j x x' hj h5 h6 => ?_⟩, by simp [intOf]; omega⟩
          rcases Nat.lt_or_ge j i with h7 | h7
          · exact HE.out j x x' h7 h5 h6
          · obtain rfl : j = i := by omega
            rw [HD.out] at h5; rw [HD'.out] at h6
            cases h5; cases h6; exact HQ.out
        · have HQ : Hid (decide (l = l') = false) := decide_eq_false (fun e => heq (by rw [e] at HD; exact Option.some.inj (HD.out.symm.trans HD'.out)))
          have e1 : decide (d.1 = d'.1 ∧ d.2 = d'.2) = false := decide_eq_false (fun e => heq (Prod.ext e.1 e.2))
          rw [e1] at hcall
          clear e1 heq
          generalize d.2 = r at *
          generalize d'.2 = r' at *
          go_wp2_with fail
          refine wp_region_quiet_below (by kernel_rfl) (by kernel_rfl) ?_
          repeat (any_goals (first | go_big_quiet_step ((go_at_call 79; exact Calls.regrown_of (hcall.out _ _))) | quiet_step ((go_at_call 79; exact Calls.regrown_of (hcall.out _ _)))))
          refine wpQuiet_nil ?_
          intro _ hw'
          obtain ⟨⟨dq, osq⟩, hw''⟩ := hw'
          subst hw''
          go_wp2_with fail
          go_ret
          exact ⟨ret_b HQ.out.symm, bnext HB.out (below_regrown _ _ _)⟩
      · obtain rfl : i = n := by omega
        have HQ : Hid (decide (l = l') = true) := decide_eq_true (getElem_eq_cnt (by rw [HL.out, HL'.out]) (fun j x x' h5 h6 => HE.out j x x' (by rw [← HL.out]; exact (List.getElem?_eq_some_iff.1 h5).1) h5 h6))
        clear hb
        go_wp2_with fail
        go_ret
        exact ⟨ret_b HQ.out.symm, HB.out⟩
  · have HQ : Hid (decide (l = l') = false) := decide_eq_false (fun e => hne (by rw [← hl, ← hl', e]))
    have q : ((n : Int) != n') = true := by simp; omega
    clear h h' hcell hcell' hl hl' hne
    go_enter Tryz.func30, Tryz.ntmps30
    go_wp2_with fail
    go_ret
    exact ⟨ret_b HQ.out.symm, Below.refl _ _⟩
theorem eqCountedSR (w : World) (v v' : Value) (d : List CntD) (h : RdCountedS w v d) (h' : RdCountedS w v' d) :
    Calls Tryz.prog 30 #[v, v'] w (GaveBool w true) := by
  have := eqCountedS_any w v v' d d h h'
  rwa [decide_eq_true rfl] at this


def sumTup (l : List CntD) : Nat := (l.map (fun d => d.1.length)).sum
def sizeCountedS (l : List CntD) : Nat := l.length + sumTup l
theorem sumTup_take {l : List CntD} {i : Nat} {d : CntD} (h : l[i]? = some d) : sumTup (l.take (i + 1)) = sumTup (l.take i) + d.1.length := by
  obtain ⟨hi, rfl⟩ := List.getElem?_eq_some_iff.1 h
  unfold sumTup
  rw [List.take_succ_eq_append_getElem hi, List.map_append, List.sum_append]
  simp
theorem sumTup_le (l : List CntD) (i : Nat) : sumTup (l.take i) ≤ sumTup l := by
  induction l generalizing i with
  | nil => simp [sumTup]
  | cons a l ih =>
    cases i with
    | zero => simp [sumTup]
    | succ i => have := ih i; simp only [sumTup, List.take_succ_cons, List.map_cons, List.sum_cons] at this ⊢; omega
theorem madeCnts (n t : Nat) (ht : t < n * 2) : (madeCells #[.slice none 0 0, .int .i64 0] (n * 2)).toList[t]? = some (if t % 2 = 0 then .slice none 0 0 else .int .i64 0) := by
  unfold madeCells
  simp only [Array.toList_map, Array.toList_range, List.getElem?_map, List.getElem?_range ht, Option.map_some]
  congr 1
  have h2 : t % 2 = 0 ∨ t % 2 = 1 := by omega
  rcases h2 with h | h
  · rw [if_pos h]; simp [h]
  · rw [if_neg (by omega)]; simp [h]
theorem take_setC {l : List CntD} {n i : Nat} {z d : CntD} (hl : l.length = n) (hi : i < n) (hd : l[i]? = some d) : (l.take i ++ List.replicate (n - i) z).set i d = l.take (i + 1) ++ List.replicate (n - (i + 1)) z := by
  obtain ⟨hi2, rfl⟩ := List.getElem?_eq_some_iff.1 hd
  rw [List.set_append_right _ _ (by rw [List.length_take]; omega), List.length_take, Nat.min_eq_left (by omega), Nat.sub_self, show n - i = (n - (i + 1)) + 1 from by omega, List.replicate_succ, List.set_cons_zero, List.take_succ_eq_append_getElem hi2, List.append_assoc]
  rfl
/-- One round of toCountedS: element i of the row is laid. -/
theorem cntLaid {w2 : World} {g : Nat} {l : List CntD} {bss : List (List Nat)} {i : Nat} {r : Int} {a : Option Addr} {n c : Nat} {li : List Int} {bs : List Nat} (h : RowO 2 COCnt w2 g 0 l bss) (hi : i < l.length)
    (hlo : ∀ x ∈ bss.flatten, g < x) (hr : inI r) (ho : OInts w2 (.slice a n c) li bs) (hb : ∀ x ∈ bs, g < x) :
    RowO 2 COCnt ((w2.setCell ⟨g, i * 2, none⟩ (.slice a n c)).setCell ⟨g, i * 2 + 1, none⟩ (.int .i64 r)) g 0 (l.set i (li, r)) (bss.set i bs) := by
  obtain ⟨cs, k1, k2, xa, xn, xc, rfl, _, _⟩ := h.2.2.2 i l[i] (List.getElem?_eq_getElem hi)
  have q0 : w2.cell? ⟨g, i * 2, none⟩ = some (.slice xa xn xc) := by have := k2 0 (by omega); simpa using this
  have q1 : w2.cell? ⟨g, i * 2 + 1, none⟩ = some (.int .i64 l[i].2) := by have := k2 1 (by omega); simpa using this
  have hne : ∀ {x y : Nat}, x ≠ y → (⟨g, x, none⟩ : Addr) ≠ ⟨g, y, none⟩ := fun h e => h (congrArg Addr.off e)
  refine h.upd (by simp [World.setCell]) i hi (li, r) bs [.slice a n c, .int .i64 r] (fun t _ => by rw [World.frozen?_setCell, World.frozen?_setCell]) (fun t ht => ?_) rfl (fun e he => ?_) ⟨a, n, c, rfl, hr, ?_⟩ (fun j cs d hj hd hc => ?_)
  · rw [Nat.zero_add, World.cell?_setCell_other _ _ _ _ (hne (by omega)), World.cell?_setCell_other _ _ _ _ (hne (by omega))]
  · rw [Nat.zero_add]
    have : e = 0 ∨ e = 1 := by omega
    rcases this with rfl | rfl
    · show World.cell? _ ⟨g, i * 2, none⟩ = _
      rw [World.cell?_setCell_other _ _ _ _ (hne (by omega)), World.cell?_setCell_same _ _ _ q0]; rfl
    · refine World.cell?_setCell_same (u := .int .i64 l[i].2) _ _ _ ?_
      rw [World.cell?_setCell_other _ _ _ _ (hne (by omega))]; exact q1
  · exact (ho.setCell (B := g + 1) (fun x hx => hb x hx) _ _ _ (by omega)).setCell (B := g + 1) (fun x hx => hb x hx) _ _ _ (by omega)
  · have hnb : ∀ b ∈ bss.getD j [], b ∉ [g] := fun b hb' hm => by
      have h5 := hlo b (getD_mem_flatten hb')
      simp at hm; omega
    exact (hc.onlyAt hnb (OnlyAt.setCell _ _ _ _)).onlyAt hnb (OnlyAt.setCell _ _ _ _)
theorem info_CountedT : (Tryz.prog.info? 98).map (fun i => (i.zero, i.size, i.bytes)) = some (some (.agg #[.slice none 0 0, .int .i64 0]), 2, 32) := by kernel_rfl
theorem zeroCnts {w w1 : World} {n : Nat} (h : BuiltC 98 2 w w1 (.slice (some ⟨w.heap.size, 0, none⟩) n n) n (madeCells #[.slice none 0 0, .int .i64 0] (n * 2)).toList) : RowO 2 COCnt w1 w.heap.size 0 (List.replicate n (([], 0) : CntD)) (List.replicate n []) := by
  refine ⟨by simp, h.lt.2, fun t ht => ?_, fun j d hd => ?_⟩
  · rw [Nat.zero_add]; exact h.frozen t
  · have hj : j < n := by
      rcases Nat.lt_or_ge j n with h5 | h5
      · exact h5
      · rw [List.getElem?_eq_none (by simpa using h5)] at hd; cases hd
    rw [List.getElem?_replicate, if_pos hj] at hd
    cases hd
    refine ⟨[.slice none 0 0, .int .i64 0], rfl, fun e he => ?_, none, 0, 0, rfl, ⟨by decide, by decide⟩, Ints.nil _, .inl ⟨none, 0, rfl, ?_⟩⟩
    · rw [Nat.zero_add, h.cell _ (by omega), madeCnts _ _ (by omega)]
      have : e = 0 ∨ e = 1 := by omega
      rcases this with rfl | rfl
      · rw [if_pos (by omega)]; rfl
      · rw [if_neg (by omega)]; rfl
    · rw [List.getD_eq_getElem?_getD, List.getElem?_replicate]; split <;> rfl
section
variable {H : Type} {enc : TypeId × Value → H} {w : World} {spare : Nat → Bool} {held : Bool}
end
end Go.Proofs.YtfojllkkbdpfkaaGreat
