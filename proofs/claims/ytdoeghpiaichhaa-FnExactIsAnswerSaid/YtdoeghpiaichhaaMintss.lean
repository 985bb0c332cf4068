/- The laws' helpers on [][]int: szIntSS, toIntSS, eqIntSS, markIntSS, heldIntSS. -/
import Derived.Test.YtdoeghpiaichhaaIntSS
import Derived.Test.YtdoeghpiaichhaaMark
import Derived.Test.YtdoeghpiaichhaaMatoms
import Derived.Lib.QuietBelow
namespace Go.Proofs.Ytdoeghpiaichhaa
open Go Go.Sort Go.RowKit
set_option linter.unusedVariables false

set_option maxHeartbeats 2000000 in
theorem szIntSSR (w : World) (v : Value) (l : List (List Int)) (left : Int) (h : RdIntSS w v l) (h0 : 0 ≤ left) (h1 : left ≤ 1048576) :
    Calls Try.prog 18 #[v, .int .i64 left] w (GaveInt w (szOf left (sizeIntSS l))) := by
  obtain ⟨a, n, c, rfl, h⟩ := h
  obtain ⟨hl, hn, hm, hcell⟩ := h.at
  unfold maxLen at hm
  have HC := Lib.hid hcell
  have HL := Lib.hid hl
  have hz := Lib.hid (fun w v l left a b c => szIntS_any w v l left a b c)
  clear h hcell hl
  by_cases hneg : left - (n : Int) < 0
  · have HQ : Hid (szOf left (sizeIntSS l) = -1) := szOf_no (by have := HL.out; unfold sizeIntSS; omega)
    go_enter Try.func18, Try.ntmps18
    go_wp2_with fail
    go_ret
    exact ⟨ret_n HQ.out.symm, Below.refl _ _⟩
  · have q0 : decide (left - (n : Int) < 0) = false := decide_eq_false hneg
    have hpos : 0 ≤ left - (n : Int) := by omega
    clear hneg
    go_enter Try.func18, Try.ntmps18
    go_wp2_with fail
    go_loopw [1, 5] (fun lv iv wr => ∃ i : Nat, i ≤ n ∧ iv = .int .i64 i ∧ lv = .int .i64 (left - n - (sumL (l.take i) : Int)) ∧ 0 ≤ left - (n : Int) - (sumL (l.take i) : Int) ∧ Below w.heap.size w wr) (fun _ iv _ => n - (intOf iv).toNat)
    case atStart => exact ⟨0, by omega, rfl, by simp [sumL], by simpa [sumL] using hpos, Below.refl _ _⟩
    case round =>
      obtain ⟨i, hi, rfl, rfl, hnn, hb⟩ := hrel
      have HB := Lib.hid hb
      by_cases hlt : i < n
      · obtain ⟨b, off, rfl, hbw, hc⟩ := HC.out (by omega)
        obtain ⟨d, hd⟩ : ∃ d, l[i]? = some d := ⟨l[i]'(by rw [HL.out]; exact hlt), List.getElem?_eq_getElem (by rw [HL.out]; exact hlt)⟩
        obtain ⟨a', m', c', c1, hints⟩ := intsAt (n := n) hc i d hd
        have HS := Lib.hid (sumL_take hd)
        have HT := Lib.hid (sumL_le l (i + 1))
        replace c1 := cellk hb c1
        have HV := Lib.hid (hints.below hb)
        have hi0 : (0 : Int) ≤ i := by omega
        have hi1 : (i : Int) < n := by omega
        have hcall := Lib.hid (hz.out wr (.slice a' m' c') d (left - n - (sumL (l.take i) : Int)) HV.out hnn (by omega))
        clear hc hbw hb hd hints
        by_cases hov : left - n - (sumL (l.take i) : Int) - (d.length : Int) < 0
        · have HQ : Hid (szOf left (sizeIntSS l) = -1) := szOf_no (by have := HL.out; have := HS.out; have := HT.out; unfold sizeIntSS; omega)
          rw [szOf_no (by omega)] at hcall
          generalize sumL (l.take i) = s at *
          clear hov HS HT HV
          go_wp2_with fail
          refine hcall.out.mono ?_
          rintro e w2 ⟨rfl, rfl⟩
          have HB2 := HB
          go_wp2_with fail
          go_ret
          exact ⟨ret_n HQ.out.symm, HB2.out⟩
        · rw [szOf_ok (by omega)] at hcall
          have hov2 : 0 ≤ left - n - (sumL (l.take i) : Int) - (d.length : Int) := by omega
          generalize sumL (l.take i) = s at *
          generalize d.length = dl at *
          clear hov HT HV
          go_wp2_with fail
          refine hcall.out.mono ?_
          rintro e w2 ⟨rfl, rfl⟩
          have HB2 := HB
          go_wp2_with fail
          exact ⟨⟨i + 1, by omega, by simp, by rw [HS.out]; congr 1; omega, by rw [HS.out]; omega, HB2.out⟩, by simp [intOf]; omega⟩
      · obtain rfl : i = n := by omega
        have HQ : Hid (left - i - (sumL (l.take i) : Int) = szOf left (sizeIntSS l)) := by
          have := HL.out
          unfold Hid
          rw [List.take_of_length_le (by omega)] at hnn ⊢
          rw [szOf_ok (by unfold sizeIntSS; omega)]; unfold sizeIntSS; omega
        clear hb
        generalize sumL (l.take i) = s at *
        go_wp2_with fail
        go_ret
        exact ⟨ret_n HQ.out, HB.out⟩

theorem getElemI_eq_of {l l' : List (List Int)} (h : l.length = l'.length) (hj : ∀ (j : Nat) (d d' : List Int), l[j]? = some d → l'[j]? = some d' → d = d') : l = l' := by
  refine List.ext_getElem h fun j h1 h2 => ?_
  exact hj j _ _ (List.getElem?_eq_getElem h1) (List.getElem?_eq_getElem h2)

set_option maxHeartbeats 4000000 in
theorem eqIntSS_any (w : World) (v v' : Value) (l l' : List (List Int)) (h : RdIntSS w v l) (h' : RdIntSS w v' l') :
    Calls Try.prog 22 #[v, v'] w (GaveBool w (decide (l = l'))) := by
  obtain ⟨a, n, c, rfl, h⟩ := h
  obtain ⟨a', n', c', rfl, h'⟩ := h'
  obtain ⟨hl, hn, hm, hcell⟩ := h.at
  obtain ⟨hl', hn', hm', hcell'⟩ := h'.at
  unfold maxLen at hm hm'
  by_cases hne : n = n'
  · subst hne
    have HC := Lib.hid hcell
    have HC' := Lib.hid hcell'
    have HL := Lib.hid hl
    have HL' := Lib.hid hl'
    have hz := Lib.hid (fun w v v' l l' a b => eqIntS_any w v v' l l' a b)
    clear h h' hcell hcell' hl hl'
    go_enter Try.func22, Try.ntmps22
    go_wp2_with fail
    go_loopw [5] (fun iv wr => ∃ i : Nat, i ≤ n ∧ iv = .int .i64 i ∧ Below w.heap.size w wr ∧ Hid (∀ (j : Nat) (d d' : List Int), j < i → l[j]? = some d → l'[j]? = some d' → d = d')) (fun iv _ => n - (intOf iv).toNat)
    case atStart => exact ⟨0, by omega, rfl, Below.refl _ _, fun j d d' hj => by omega⟩
    case round =>
      obtain ⟨i, hi, rfl, hb, HE⟩ := hrel
      have HB := Lib.hid hb
      by_cases hlt : i < n
      · obtain ⟨b, off, rfl, hbw, hc⟩ := HC.out (by omega)
        obtain ⟨b', off', rfl, hbw', hc'⟩ := HC'.out (by omega)
        obtain ⟨d, hd⟩ : ∃ d, l[i]? = some d := ⟨l[i]'(by rw [HL.out]; exact hlt), List.getElem?_eq_getElem (by rw [HL.out]; exact hlt)⟩
        obtain ⟨d', hd'⟩ : ∃ d, l'[i]? = some d := ⟨l'[i]'(by rw [HL'.out]; exact hlt), List.getElem?_eq_getElem (by rw [HL'.out]; exact hlt)⟩
        obtain ⟨ea, em, ec, c1, hints⟩ := intsAt (n := n) hc i d hd
        obtain ⟨ea', em', ec', c1', hints'⟩ := intsAt (n := n) hc' i d' hd'
        have k1 := cell_regrown (w := wr) (cellk hb c1)
        have k1' := cell_regrown (w := wr) (cellk hb c1')
        have HD := Lib.hid hd
        have HD' := Lib.hid hd'
        have hi0 : (0 : Int) ≤ i := by omega
        have hi1 : (i : Int) < n := by omega
        have hcall := Lib.hid (fun dn os => hz.out (grow (redrawn wr dn) os) (.slice ea em ec) (.slice ea' em' ec') d d' (hints.below (hb.trans ((below_regrown wr dn os).mono hb.size))) (hints'.below (hb.trans ((below_regrown wr dn os).mono hb.size))))
        clear hc hc' hbw hbw' hb hd hd' hints hints' c1 c1'
        by_cases heq : d = d'
        · have HQ := Lib.hid heq
          rw [decide_eq_true heq] at hcall
          clear heq
          go_wp2_with fail
          refine wp_region_quiet_below (by kernel_rfl) (by kernel_rfl) ?_
          repeat (any_goals (first | go_big_quiet_step ((go_at_call 17; exact Calls.regrown_of (hcall.out _ _))) | quiet_step ((go_at_call 17; exact Calls.regrown_of (hcall.out _ _)))))
          refine wpQuiet_nil ?_
          intro _ hw'
          obtain ⟨⟨dq, osq⟩, hw''⟩ := hw'
          subst hw''
          go_wp2_with fail
          refine ⟨⟨i + 1, by omega, by simp, bnext HB.out (below_regrown _ _ _), fun j x x' hj h5 h6 => ?_⟩, by simp [intOf]; omega⟩
          rcases Nat.lt_or_ge j i with h7 | h7
          · exact HE.out j x x' h7 h5 h6
          · obtain rfl : j = i := by omega
            rw [HD.out] at h5; rw [HD'.out] at h6
            cases h5; cases h6; exact HQ.out
        · have HQ : Hid (decide (l = l') = false) := decide_eq_false (fun e => heq (by rw [e] at HD; exact Option.some.inj (HD.out.symm.trans HD'.out)))
          rw [decide_eq_false heq] at hcall
          clear heq
          go_wp2_with fail
          refine wp_region_quiet_below (by kernel_rfl) (by kernel_rfl) ?_
          repeat (any_goals (first | go_big_quiet_step ((go_at_call 17; exact Calls.regrown_of (hcall.out _ _))) | quiet_step ((go_at_call 17; exact Calls.regrown_of (hcall.out _ _)))))
          refine wpQuiet_nil ?_
          intro _ hw'
          obtain ⟨⟨dq, osq⟩, hw''⟩ := hw'
          subst hw''
          go_wp2_with fail
          go_ret
          exact ⟨ret_b HQ.out.symm, bnext HB.out (below_regrown _ _ _)⟩
      · obtain rfl : i = n := by omega
        have HQ : Hid (decide (l = l') = true) := decide_eq_true (getElemI_eq_of (by rw [HL.out, HL'.out]) (fun j x x' h5 h6 => HE.out j x x' (by rw [← HL.out]; exact (List.getElem?_eq_some_iff.1 h5).1) h5 h6))
        clear hb
        go_wp2_with fail
        go_ret
        exact ⟨ret_b HQ.out.symm, HB.out⟩
  · have HQ : Hid (decide (l = l') = false) := decide_eq_false (fun e => hne (by rw [← hl, ← hl', e]))
    have q : ((n : Int) != n') = true := by simp; omega
    clear h h' hcell hcell' hl hl' hne
    go_enter Try.func22, Try.ntmps22
    go_wp2_with fail
    go_ret
    exact ⟨ret_b HQ.out.symm, Below.refl _ _⟩
theorem eqIntSSR (w : World) (v v' : Value) (d : List (List Int)) (h : RdIntSS w v d) (h' : RdIntSS w v' d) :
    Calls Try.prog 22 #[v, v'] w (GaveBool w true) := by
  have := eqIntSS_any w v v' d d h h'
  rwa [decide_eq_true rfl] at this

theorem info_IntSl : (Try.prog.info? 22).map (fun i => (i.zero, i.size, i.bytes)) = some (some (.slice none 0 0), 1, 24) := by kernel_rfl
theorem take_atI {l : List (List Int)} {i : Nat} {e : List Int} (h : l[i]? = some e) : l.take (i + 1) = l.take i ++ [e] := by
  obtain ⟨hi, rfl⟩ := List.getElem?_eq_some_iff.1 h
  rw [List.take_succ_eq_append_getElem hi]

set_option maxHeartbeats 4000000 in
theorem toIntSSO (w : World) (v : Value) (l : List (List Int)) (h : RdIntSS w v l) (hs : sizeIntSS l ≤ 1048576) :
    Calls Try.prog 20 #[v] w (GaveO (fun w' v bs => ROIntSS w' v l bs) w) := by
  obtain ⟨a, n, c, rfl, h⟩ := h
  obtain ⟨hl, hn, hm, hcell⟩ := h.at
  have hnl : n ≤ 1048576 := by unfold sizeIntSS at hs; omega
  unfold maxLen at hm
  have HC := Lib.hid hcell
  have HL := Lib.hid hl
  have HSZ : Hid (∀ x ∈ l, x.length ≤ 1048576) := fun x hx => elem_size hx hs
  have hz := Lib.hid (fun w v l a b => toIntS_any w v l a b)
  clear h hcell hl hs
  go_enter Try.func20, Try.ntmps20
  go_wp2_with (at_make; refine wpList_make_C rfl (.tmp 6) (.tmp 6) 47 rfl 22 (.slice none 0 0) 1 24 Try.underlying47 info_IntSl (by decide) (by decide) (Below.refl _ w) .i64 .i64 n rfl rfl (by omega) ?_)
  intro w1 hb1
  have HB1 : Hid (PartI 22 w w1 w.heap.size n [] []) := PartI.made hb1
  clear hb1
  go_wp2_with fail
  go_loopw [4] (fun iv wr => ∃ i : Nat, i ≤ n ∧ iv = .int .i64 i ∧ ∃ bss, Hid (PartI 22 w wr w.heap.size n (l.take i) bss)) (fun iv _ => n - (intOf iv).toNat)
  case atStart => exact ⟨0, by omega, rfl, [], by simpa using HB1⟩
  case round =>
    obtain ⟨i, hi, rfl, bss, HP⟩ := hrel
    have hb := HP.out.below
    by_cases hlt : i < n
    · obtain ⟨b, off, rfl, hbw, hc⟩ := HC.out (by omega)
      obtain ⟨d, hd⟩ : ∃ d, l[i]? = some d := ⟨l[i]'(by rw [HL.out]; exact hlt), List.getElem?_eq_getElem (by rw [HL.out]; exact hlt)⟩
      obtain ⟨ea, em, ec, c1, hints⟩ := intsAt (n := n) hc i d hd
      replace c1 := cellk hb c1
      have HTK := Lib.hid (take_atI hd)
      have hlen2 : (l.take i).length = i := by simp; have := HL.out; omega
      have HLEN := Lib.hid hlen2
      have hi0 : (0 : Int) ≤ i := by omega
      have hi1 : (i : Int) < n := by omega
      have hcall := Lib.hid (hz.out wr (.slice ea em ec) d (hints.below hb) (HSZ.out d (List.mem_of_getElem? hd)))
      generalize l.take i = L at *
      clear hc hbw hb hd hints hlen2
      go_wp2_with fail
      refine hcall.out.mono ?_
      rintro e w2 ⟨v2, bs2, rfl, ho2, hfr2, hb2⟩
      obtain ⟨a2, n2, c2, rfl⟩ := ho2.1.shape
      have HNEW := Lib.hid (PartI.step HP.out HLEN.out hlt hb2 ho2 hfr2)
      obtain ⟨pu, p0⟩ := (HP.out.grow hb2).cells i hlt
      have p2 := (HP.out.grow hb2).frozen i
      clear hb2 ho2 hfr2 c1
      go_wp2_with fail
      exact ⟨⟨i + 1, by omega, by simp, _, by rw [HTK.out]; exact HNEW⟩, by simp [intOf]; omega⟩
    · obtain rfl : i = n := by omega
      have hT : Hid (l.take i = l) := List.take_of_length_le (by rw [HL.out]; exact Nat.le_refl _)
      clear hb
      go_wp2_with fail
      go_ret
      have hp := HP.out
      rw [hT.out] at hp
      obtain ⟨bs, b1, b2⟩ := hp.done HL.out
      exact ⟨_, bs, rfl, b1, b2, hp.below⟩
theorem toIntSSR (w : World) (v : Value) (d : List (List Int)) (h : RdIntSS w v d) (hl : sizeIntSS d ≤ 1048576) :
    Calls Try.prog 20 #[v] w (GaveD (fun w' v => RdIntSS w' v d) w) :=
  (toIntSSO w v d h hl).mono fun e w' ⟨v, bs, he, hr, _, hb⟩ => ⟨v, he, hr.rd, hb⟩

def mIntSS (l : List (List Int)) : Nat := sumL l
def mkIntSS : Int → List (List Int) → List (List Int)
  | _, [] => []
  | k, d :: l => iota k d.length :: mkIntSS (k + (d.length : Int)) l
theorem mkIntSS_length (k : Int) (l : List (List Int)) : (mkIntSS k l).length = l.length := by
  induction l generalizing k with
  | nil => rfl
  | cons d l ih => simp [mkIntSS, ih]
theorem sumL_cons (d : List Int) (l : List (List Int)) : sumL (d :: l) = d.length + sumL l := by simp [sumL]
theorem mkIntSS_snoc (k : Int) (l : List (List Int)) (d : List Int) : mkIntSS k (l ++ [d]) = mkIntSS k l ++ [iota (k + (sumL l : Int)) d.length] := by
  induction l generalizing k with
  | nil => simp [mkIntSS, sumL]
  | cons x l ih =>
    simp only [List.cons_append, mkIntSS, ih, sumL_cons]
    have e : k + (x.length : Int) + (sumL l : Int) = k + ((x.length + sumL l : Nat) : Int) := by omega
    rw [e]
theorem mkIntSS_take {l : List (List Int)} {i : Nat} {d : List Int} (k : Int) (h : l[i]? = some d) : mkIntSS k (l.take (i + 1)) = mkIntSS k (l.take i) ++ [iota (k + (sumL (l.take i) : Int)) d.length] := by
  obtain ⟨hi, rfl⟩ := List.getElem?_eq_some_iff.1 h
  rw [List.take_succ_eq_append_getElem hi, mkIntSS_snoc]
theorem mIntSS_le {l : List (List Int)} (h : sizeIntSS l ≤ 1048576) : mIntSS l ≤ 1048576 := by unfold mIntSS; unfold sizeIntSS at h; omega
theorem mark_setI {l : List (List Int)} {i : Nat} {d : List Int} (k : Int) (h : l[i]? = some d) : (mkIntSS k (l.take i) ++ l.drop i).set i (iota (k + (sumL (l.take i) : Int)) d.length) = mkIntSS k (l.take (i + 1)) ++ l.drop (i + 1) := by
  have hi := (List.getElem?_eq_some_iff.1 h).1
  rw [List.set_append_right _ _ (by rw [mkIntSS_length, List.length_take]; omega), mkIntSS_length, List.length_take, Nat.min_eq_left (by omega), Nat.sub_self, List.drop_eq_getElem_cons hi, List.set_cons_zero, mkIntSS_take k h, List.append_assoc]
  rfl
/-- The slice behind element i is marked; the row itself stays. -/
theorem intsMarked {w w2 : World} {b off : Nat} {l : List (List Int)} {bss : List (List Nat)} {i : Nat} {a : Option Addr} {n c : Nat} {li : List Int} (h : RowO 1 COInts w b off l bss) (hi : i < l.length) (hnd : (b :: bss.flatten).Nodup)
    (ho : OInts w2 (.slice a n c) li (bss.getD i [])) (hat : OnlyAt (bss.getD i []) w w2) (hc : w.cell? ⟨b, off + i, none⟩ = some (.slice a n c)) :
    RowO 1 COInts w2 b off (l.set i li) bss := by
  have hbn : b ∉ bss.getD i [] := fun hm => (List.nodup_cons.1 hnd).1 (getD_mem_flatten hm)
  have hblk := hat.block b h.2.1 hbn
  have e0 : bss.set i (bss.getD i []) = bss := by
    have hi' : i < bss.length := by rw [h.1]; exact hi
    refine List.ext_getElem (by simp) fun j h1 h2 => ?_
    rw [List.getElem_set]
    split
    · rename_i e; subst e; simp [List.getD, List.getElem?_eq_getElem hi']
    · rfl
  have := h.upd (w' := w2) hat.size i hi li (bss.getD i []) [.slice a n c]
    (fun t _ => by rw [World.frozen?_of_block (w := w) hblk])
    (fun t ht => by rw [World.cell?_of_block (w := w) hblk]) rfl
    (fun e he => by
      obtain rfl : e = 0 := by omega
      rw [World.cell?_of_block (w := w) hblk, Nat.mul_one, Nat.add_zero, hc]; rfl)
    ⟨a, n, c, rfl, ho⟩
    (fun j cs d hj hd hc => COInts.onlyAt (fun x hx hm => nodup_apart (List.nodup_cons.1 hnd).2 (fun e => hj e.symm) hm hx) hat hc)
  rwa [e0] at this

theorem mkIntSS_get {l : List (List Int)} {i : Nat} {d : List Int} (k : Int) (h : l[i]? = some d) : (mkIntSS k l)[i]? = some (iota (k + (sumL (l.take i) : Int)) d.length) := by
  induction l generalizing i k with
  | nil => simp at h
  | cons x l ih =>
    cases i with
    | zero =>
      simp at h; subst h
      simp [mkIntSS, sumL]
    | succ i =>
      simp only [List.getElem?_cons_succ] at h
      simp only [mkIntSS, List.getElem?_cons_succ, ih _ h, List.take_succ_cons, sumL_cons]
      have e : k + (x.length : Int) + (sumL (l.take i) : Int) = k + ((x.length + sumL (l.take i) : Nat) : Int) := by omega
      rw [e]

end Go.Proofs.Ytdoeghpiaichhaa
