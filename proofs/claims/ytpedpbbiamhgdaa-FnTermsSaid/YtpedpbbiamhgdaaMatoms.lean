/- The laws' helpers on []Atom: markAtomS, heldAtomS. -/
import Derived.Test.YtpedpbbiamhgdaaAtomK
namespace Go.Proofs.Ytpedpbbiamhgdaa
open Go.RowKit
set_option linter.unusedVariables false

def mAtomS : List AtomD → Nat
  | [] => 0
  | d :: l => 1 + d.2.length + mAtomS l
def mkAtomS : Int → List AtomD → List AtomD
  | _, [] => []
  | k, d :: l => (k, iota (k + 1) d.2.length) :: mkAtomS (k + 1 + (d.2.length : Int)) l
theorem mkAtomS_length (k : Int) (l : List AtomD) : (mkAtomS k l).length = l.length := by
  induction l generalizing k with
  | nil => rfl
  | cons d l ih => simp [mkAtomS, ih]
theorem mAtomS_snoc (l : List AtomD) (d : AtomD) : mAtomS (l ++ [d]) = mAtomS l + (1 + d.2.length) := by
  induction l with
  | nil => simp [mAtomS]
  | cons x l ih => simp only [List.cons_append, mAtomS, ih]; omega
theorem mkAtomS_snoc (k : Int) (l : List AtomD) (d : AtomD) : mkAtomS k (l ++ [d]) = mkAtomS k l ++ [(k + (mAtomS l : Int), iota (k + (mAtomS l : Int) + 1) d.2.length)] := by
  induction l generalizing k with
  | nil => simp [mkAtomS, mAtomS]
  | cons x l ih =>
    simp only [List.cons_append, mkAtomS, ih, mAtomS]
    have e : k + 1 + (x.2.length : Int) + (mAtomS l : Int) = k + ((1 + x.2.length + mAtomS l : Nat) : Int) := by omega
    rw [e]
theorem mAtomS_take {l : List AtomD} {i : Nat} {d : AtomD} (h : l[i]? = some d) : mAtomS (l.take (i + 1)) = mAtomS (l.take i) + (1 + d.2.length) := by
  obtain ⟨hi, rfl⟩ := List.getElem?_eq_some_iff.1 h
  rw [List.take_succ_eq_append_getElem hi, mAtomS_snoc]
theorem mkAtomS_take {l : List AtomD} {i : Nat} {d : AtomD} (k : Int) (h : l[i]? = some d) : mkAtomS k (l.take (i + 1)) = mkAtomS k (l.take i) ++ [(k + (mAtomS (l.take i) : Int), iota (k + (mAtomS (l.take i) : Int) + 1) d.2.length)] := by
  obtain ⟨hi, rfl⟩ := List.getElem?_eq_some_iff.1 h
  rw [List.take_succ_eq_append_getElem hi, mkAtomS_snoc]
theorem mAtomS_take_le (l : List AtomD) (i : Nat) : mAtomS (l.take i) ≤ mAtomS l := by
  induction l generalizing i with
  | nil => simp [mAtomS]
  | cons a l ih =>
    cases i with
    | zero => simp [mAtomS]
    | succ i => have := ih i; simp only [List.take_succ_cons, mAtomS]; omega
theorem mAtomS_size (l : List AtomD) : mAtomS l = sizeAtomS l := by
  induction l with
  | nil => rfl
  | cons a l ih => simp only [mAtomS, ih, sizeAtomS, sumArgs, List.length_cons, List.map_cons, List.sum_cons]; omega
theorem mAtomS_le {l : List AtomD} (h : sizeAtomS l ≤ 1048576) : mAtomS l ≤ 1048576 := by rw [mAtomS_size]; exact h
theorem len_le_mAtomS (l : List AtomD) : l.length ≤ mAtomS l := by rw [mAtomS_size]; unfold sizeAtomS; omega
theorem mark_set {l : List AtomD} {i : Nat} {d : AtomD} (k : Int) (h : l[i]? = some d) : (mkAtomS k (l.take i) ++ l.drop i).set i (k + (mAtomS (l.take i) : Int), iota (k + (mAtomS (l.take i) : Int) + 1) d.2.length) = mkAtomS k (l.take (i + 1)) ++ l.drop (i + 1) := by
  have hi := (List.getElem?_eq_some_iff.1 h).1
  rw [List.set_append_right _ _ (by rw [mkAtomS_length, List.length_take]; omega), mkAtomS_length, List.length_take, Nat.min_eq_left (by omega), Nat.sub_self, List.drop_eq_getElem_cons hi, List.set_cons_zero, mkAtomS_take k h, List.append_assoc]
  rfl

/-- Element i of the row: the number is stored, the slice behind it is marked. -/
theorem atomMarked {w w1 w2 : World} {b off : Nat} {l : List AtomD} {bss : List (List Nat)} {i : Nat} {k : Int} {a : Option Addr} {n c : Nat} {li : List Int} (h : RowO 2 COAtom w b off l bss) (hi : i < l.length) (hnd : (b :: bss.flatten).Nodup)
    (hs : w1 = w.setCell ⟨b, off + i * 2, none⟩ (.int .i64 k)) (hk : inI k) (ho : OInts w2 (.slice a n c) li (bss.getD i [])) (hat : OnlyAt (bss.getD i []) w1 w2) (hc : w.cell? ⟨b, off + i * 2 + 1, none⟩ = some (.slice a n c)) :
    RowO 2 COAtom w2 b off (l.set i (k, li)) bss := by
  obtain ⟨cs, k1, k2, xa, xn, xc, rfl, _, _⟩ := h.2.2.2 i l[i] (List.getElem?_eq_getElem hi)
  have q0 : w.cell? ⟨b, off + i * 2, none⟩ = some (.int .i64 l[i].1) := by have := k2 0 (by omega); simpa using this
  have hne : ∀ {x y : Nat}, x ≠ y → (⟨b, x, none⟩ : Addr) ≠ ⟨b, y, none⟩ := fun h e => h (congrArg Addr.off e)
  have hbn : b ∉ bss.getD i [] := fun hm => (List.nodup_cons.1 hnd).1 (getD_mem_flatten hm)
  have hblt : b < w1.heap.size := by rw [hs]; simpa [World.setCell] using h.2.1
  have hblk := hat.block b hblt hbn
  have hsz : w.heap.size ≤ w2.heap.size := Nat.le_trans (by rw [hs]; simp [World.setCell]) hat.size
  have e0 : bss.set i (bss.getD i []) = bss := by
    have hi' : i < bss.length := by rw [h.1]; exact hi
    refine List.ext_getElem (by simp) fun j h1 h2 => ?_
    rw [List.getElem_set]
    split
    · rename_i e; subst e; simp [List.getD, List.getElem?_eq_getElem hi']
    · rfl
  have := h.upd (w' := w2) hsz i hi (k, li) (bss.getD i []) [.int .i64 k, .slice a n c]
    (fun t _ => by rw [World.frozen?_of_block (w := w1) hblk, hs, World.frozen?_setCell])
    (fun t ht => by rw [World.cell?_of_block (w := w1) hblk, hs, World.cell?_setCell_other _ _ _ _ (hne (by omega))]) rfl
    (fun e he => by
      rw [World.cell?_of_block (w := w1) hblk, hs]
      have : e = 0 ∨ e = 1 := by omega
      rcases this with rfl | rfl
      · show World.cell? _ ⟨b, off + i * 2, none⟩ = _
        rw [World.cell?_setCell_same _ _ _ q0]; rfl
      · show World.cell? _ ⟨b, off + i * 2 + 1, none⟩ = _
        rw [World.cell?_setCell_other _ _ _ _ (hne (by omega)), hc]; rfl)
    ⟨a, n, c, rfl, hk, ho⟩
    (fun j cs d hj hd hc => by
      have n1 : ∀ x ∈ bss.getD j [], x ∉ [b] := fun x hx hm => (List.nodup_cons.1 hnd).1 (by simp at hm; subst hm; exact getD_mem_flatten hx)
      have n2 : ∀ x ∈ bss.getD j [], x ∉ bss.getD i [] := fun x hx hm => nodup_apart (List.nodup_cons.1 hnd).2 (fun e => hj e.symm) hm hx
      refine COAtom.onlyAt n2 hat ?_
      rw [hs]
      exact hc.onlyAt n1 (OnlyAt.setCell _ _ _ _))
  rwa [e0] at this

set_option maxHeartbeats 4000000 in
theorem markAtomS_row (w : World) (b off n cap : Nat) (l : List AtomD) (bss : List (List Nat)) (k : Int) (hr : RowO 2 COAtom w b off l bss) (hl : l.length = n) (hnd : (b :: bss.flatten).Nodup) (hm : mAtomS l ≤ 1048576) (h0 : 0 ≤ k) (h1 : k ≤ 4503599625273344) :
    Calls Try.prog 78 #[.slice (some ⟨b, off, none⟩) n cap, .int .i64 k] w
      (GaveMark (k + mAtomS l) (b :: bss.flatten) (fun w' => RowO 2 COAtom w' b off (mkAtomS k l) bss) w) := by
  have hnl : n ≤ 1048576 := by rw [← hl]; exact Nat.le_trans (len_le_mAtomS l) hm
  have HR := Lib.hid hr
  have HL := Lib.hid hl
  have HND := Lib.hid hnd
  have HM := Lib.hid hm
  have hz := Lib.hid (fun w v l bs k a b c d => markIntS_any w v l bs k a b c d)
  clear hr hl hnd hm
  go_enter Try.func78, Try.ntmps78
  go_wp2_with fail
  go_loopw [1, 5] (fun kv iv wr => ∃ i : Nat, i ≤ n ∧ iv = .int .i64 i ∧ kv = .int .i64 (k + (mAtomS (l.take i) : Int)) ∧ OnlyAt (b :: bss.flatten) w wr ∧ RowO 2 COAtom wr b off (mkAtomS k (l.take i) ++ l.drop i) bss) (fun _ iv _ => n - (intOf iv).toNat)
  case atStart => exact ⟨0, by omega, rfl, by simp [mAtomS], OnlyAt.refl _ _, by simpa [mkAtomS] using HR.out⟩
  case round =>
    obtain ⟨i, hi, rfl, rfl, ho, hrow⟩ := hrel
    have HO := Lib.hid ho
    have HROW := Lib.hid hrow
    clear ho
    by_cases hil : i < n
    · have hll : i < l.length := by rw [HL.out]; exact hil
      obtain ⟨d, hd⟩ : ∃ d, l[i]? = some d := ⟨l[i]'hll, List.getElem?_eq_getElem hll⟩
      have hd2 : (mkAtomS k (l.take i) ++ l.drop i)[i]? = some d := by
        rw [List.getElem?_append_right (by rw [mkAtomS_length, List.length_take]; omega), mkAtomS_length, List.length_take, Nat.min_eq_left (by omega), Nat.sub_self, List.getElem?_drop]
        simpa using hd
      obtain ⟨cs, k1, k2, a, m, c, rfl, hdi, hO⟩ := hrow.2.2.2 i d hd2
      have q0 : wr.cell? ⟨b, off + i * 2, none⟩ = some (.int .i64 d.1) := by have := k2 0 (by omega); simpa using this
      have q1 : wr.cell? ⟨b, off + i * 2 + 1, none⟩ = some (.slice a m c) := by have := k2 1 (by omega); rw [← Nat.add_assoc] at this; simpa using this
      have hlen2 : (mkAtomS k (l.take i) ++ l.drop i).length = n := by rw [List.length_append, mkAtomS_length, List.length_take, List.length_drop, HL.out]; omega
      have f0 : wr.frozen? ⟨b, off + i * 2, none⟩ = false := hrow.2.2.1 (i * 2) (by rw [hlen2]; omega)
      have hMT := mAtomS_take hd
      have hle := mAtomS_take_le l (i + 1)
      have hmm := HM.out
      have hbn : b ∉ bss.getD i [] := fun hm => (List.nodup_cons.1 HND.out).1 (getD_mem_flatten hm)
      have hcall := Lib.hid (fun kk a b => hz.out (wr.setCell ⟨b, off + i * 2, none⟩ (.int .i64 kk)) (.slice a m c) d.2 (bss.getD i []) (kk + 1))
      have HO2 : Hid (∀ kk, OInts (wr.setCell ⟨b, off + i * 2, none⟩ (.int .i64 kk)) (.slice a m c) d.2 (bss.getD i [])) := fun kk => hO.onlyAt (OnlyAt.setCell _ _ _ _) (fun x hx hm => hbn (by simp at hm; subst hm; exact hx))
      have HD := Lib.hid hd
      have Q1 := Lib.hid q1
      have HLEN := Lib.hid hlen2
      have hi0 : (0 : Int) ≤ i := by omega
      have hi1 : (i : Int) < n := by omega
      have hsl : mAtomS (l.take i) ≤ 1048576 := by omega
      have hdl : d.2.length ≤ 1048576 := by omega
      have HMT := Lib.hid hMT
      clear hrow hd hd2 k1 k2 hdi hO hlen2 hMT hle hmm hbn hcall
      obtain ⟨kk, hkk⟩ : ∃ kk : Int, k + (mAtomS (l.take i) : Int) = kk := ⟨_, rfl⟩
      have hk0 : 0 ≤ kk := by omega
      have hk1 : kk ≤ 4503599626321920 := by omega
      rw [hkk]
      have HKK := Lib.hid hkk
      clear hkk
      generalize hr : d.1 = r at *
      clear hr
      go_wp2_with fail
      refine (hz.out _ _ d.2 (bss.getD i []) _ (HO2.out kk) hdl (by omega) (by omega)).mono ?_
      rintro e w2 ⟨rfl, hr2, ho2⟩
      have hW := atomMarked (i := i) HROW.out (by rw [HLEN.out]; exact hil) HND.out rfl (by unfold inI; omega) hr2 ho2 Q1.out
      rw [← HKK.out, mark_set k HD.out] at hW
      have HW := Lib.hid hW
      have HO3 : Hid (OnlyAt (b :: bss.flatten) w w2) := HO.out.same (((OnlyAt.setCell wr b _ _).wider (fun x hx => by simp at hx; subst hx; simp)).same (ho2.wider (fun x hx => by simp only [List.mem_cons]; right; exact getD_mem_flatten hx)))
      clear hr2 ho2 hW
      go_wp2_with fail
      exact ⟨⟨i + 1, by omega, by simp, by rw [HMT.out, ← HKK.out]; congr 1; omega, HO3.out, HW.out⟩, by simp [intOf]; omega⟩
    · obtain rfl : i = n := by omega
      have hW := HROW.out
      rw [List.take_of_length_le (by rw [HL.out]; exact Nat.le_refl _), List.drop_eq_nil_of_le (by rw [HL.out]; exact Nat.le_refl _), List.append_nil] at hW
      have HW := Lib.hid hW
      have HT : Hid (l.take i = l) := List.take_of_length_le (by rw [HL.out]; exact Nat.le_refl _)
      clear hW hrow
      go_wp2_with fail
      go_ret
      exact ⟨ret_n (by rw [HT.out]), HW.out, HO.out⟩

set_option maxHeartbeats 1000000 in
theorem markAtomS_nil (w : World) (a : Option Addr) (cap : Nat) (k : Int) (h0 : 0 ≤ k) (h1 : k ≤ 4503599627370496) :
    Calls Try.prog 78 #[.slice a 0 cap, .int .i64 k] w fun e w' => e = .returned (.int .i64 k) ∧ w = w' := by
  go_enter Try.func78, Try.ntmps78
  go_wp2_with fail
  refine wp_loop_rounds 1 ?_
  rw [rounds_succ]
  go_wp2_with fail
  go_ret
  exact ⟨rfl, rfl⟩
theorem markAtomSR (w : World) (v : Value) (d : List AtomD) (bs : List Nat) (k : Int) (h : ROAtomS w v d bs) (hnd : bs.Nodup) (hm : mAtomS d ≤ 1048576) (h0 : 0 ≤ k) (h1 : k ≤ 4503599625273344) :
    Calls Try.prog 78 #[v, .int .i64 k] w (GaveMark (k + mAtomS d) bs (fun w' => ROAtomS w' v (mkAtomS k d) bs) w) := by
  obtain ⟨a, n, c, rfl, h⟩ := h
  rcases h with ⟨a', c', e, hc, rfl, rfl⟩ | ⟨b, off, n', cap, bss, e, h2, h3, h4, h5, rfl, h6⟩
  · cases e
    refine (markAtomS_nil w _ _ k h0 (by omega)).mono ?_
    rintro e w' ⟨rfl, rfl⟩
    exact ⟨ret_n (by simp [mAtomS]), ⟨_, _, _, rfl, .inl ⟨_, _, rfl, hc, rfl, rfl⟩⟩, OnlyAt.refl _ _⟩
  · cases e
    refine (markAtomS_row w b off n c d bss k h6 h2 hnd hm h0 h1).mono ?_
    rintro e w' ⟨rfl, hr, ho⟩
    exact ⟨rfl, ⟨_, _, _, rfl, .inr ⟨b, off, n, c, bss, rfl, by rw [mkAtomS_length]; exact h2, h3, h4, h5, rfl, hr⟩⟩, ho⟩

theorem mkAtomS_get {l : List AtomD} {i : Nat} {d : AtomD} (k : Int) (h : l[i]? = some d) : (mkAtomS k l)[i]? = some (k + (mAtomS (l.take i) : Int), iota (k + (mAtomS (l.take i) : Int) + 1) d.2.length) := by
  induction l generalizing i k with
  | nil => simp at h
  | cons x l ih =>
    cases i with
    | zero =>
      simp at h; subst h
      simp [mkAtomS, mAtomS]
    | succ i =>
      simp only [List.getElem?_cons_succ] at h
      simp only [mkAtomS, List.getElem?_cons_succ, ih _ h, List.take_succ_cons, mAtomS]
      have e : k + 1 + (x.2.length : Int) + (mAtomS (l.take i) : Int) = k + ((1 + x.2.length + mAtomS (l.take i) : Nat) : Int) := by omega
      rw [e]

set_option maxHeartbeats 4000000 in
theorem heldAtomSR (w : World) (v : Value) (l : List AtomD) (k : Int) (h : RdAtomS w v (mkAtomS k l)) (hm : mAtomS l ≤ 1048576) (h0 : 0 ≤ k) (h1 : k ≤ 4503599625273344) :
    Calls Try.prog 80 #[v, .int .i64 k] w (GaveInt w (k + mAtomS l)) := by
  obtain ⟨a, n, c, rfl, h⟩ := h
  obtain ⟨hl, hn, hmm, hcell⟩ := h.at
  rw [mkAtomS_length] at hl
  have hnl : n ≤ 1048576 := by rw [← hl]; exact Nat.le_trans (len_le_mAtomS l) hm
  have HC := Lib.hid hcell
  have HL := Lib.hid hl
  have HM := Lib.hid hm
  have hz := Lib.hid (fun w v l k a b c d e => heldIntS_any w v l k a b c d e)
  unfold maxLen at hmm
  clear h hcell hl hm
  go_enter Try.func80, Try.ntmps80
  go_wp2_with fail
  go_loopw [1, 5] (fun kv iv wr => ∃ i : Nat, i ≤ n ∧ iv = .int .i64 i ∧ kv = .int .i64 (k + (mAtomS (l.take i) : Int)) ∧ Below w.heap.size w wr) (fun _ iv _ => n - (intOf iv).toNat)
  case atStart => exact ⟨0, by omega, rfl, by simp [mAtomS], Below.refl _ _⟩
  case round =>
    obtain ⟨i, hi, rfl, rfl, hb⟩ := hrel
    have HB := Lib.hid hb
    by_cases hil : i < n
    · have hll : i < l.length := by rw [HL.out]; exact hil
      obtain ⟨b, off, rfl, hbw, hc⟩ := HC.out (by omega)
      obtain ⟨d, hd⟩ : ∃ d, l[i]? = some d := ⟨l[i]'hll, List.getElem?_eq_getElem hll⟩
      obtain ⟨ea, em, ec, c0, c1, hdi, hints⟩ := atomAt (n := n) hc i _ (mkAtomS_get k hd)
      replace c0 := cellk hb c0
      replace c1 := cellk hb c1
      have HV := Lib.hid (hints.below hb)
      have hMT := mAtomS_take hd
      have hle := mAtomS_take_le l (i + 1)
      have hmm := HM.out
      have hi0 : (0 : Int) ≤ i := by omega
      have hi1 : (i : Int) < n := by omega
      have hsl : mAtomS (l.take i) ≤ 1048576 := by omega
      have hdl : d.2.length ≤ 1048576 := by omega
      have HMT := Lib.hid hMT
      obtain ⟨kk, hkk⟩ : ∃ kk : Int, k + (mAtomS (l.take i) : Int) = kk := ⟨_, rfl⟩
      have hk0 : 0 ≤ kk := by omega
      have hk1 : kk ≤ 4503599626321920 := by omega
      rw [hkk] at c0 HV ⊢
      have HKK := Lib.hid hkk
      have hcall := Lib.hid (hz.out wr (.slice ea em ec) (iota (kk + 1) d.2.length) (kk + 1) HV.out (by rw [iota_length]) (by rw [iota_length]; exact hdl) (by omega) (by omega))
      rw [iota_length] at hcall
      clear hc hbw hb hd hints hdi hMT hle hmm hkk HV
      go_wp2_with fail
      refine hcall.out.mono ?_
      rintro e w2 ⟨rfl, hb⟩
      have HB2 := Lib.hid (bnext HB.out hb)
      clear hb
      go_wp2_with fail
      exact ⟨⟨i + 1, by omega, by simp, by rw [HMT.out, ← HKK.out]; congr 1; omega, HB2.out⟩, by simp [intOf]; omega⟩
    · obtain rfl : i = n := by omega
      have HT : Hid (l.take i = l) := List.take_of_length_le (by rw [HL.out]; exact Nat.le_refl _)
      clear hb
      go_wp2_with fail
      go_ret
      exact ⟨ret_n (by rw [HT.out]), HB.out⟩
end Go.Proofs.Ytpedpbbiamhgdaa
