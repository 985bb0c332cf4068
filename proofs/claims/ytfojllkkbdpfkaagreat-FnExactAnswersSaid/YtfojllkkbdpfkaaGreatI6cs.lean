/- Merged of Mcounted, S6cnt, I6cdat. -/
import Derived.Test.YtfojllkkbdpfkaaGreatMatoms
import Derived.Test.YtfojllkkbdpfkaaGreatAtomK
import Derived.Test.YtfojllkkbdpfkaaGreatI6dat
import Derived.Test.YtfojllkkbdpfkaaGreatScnt
/-! Mcounted -/
namespace Go.Proofs.YtfojllkkbdpfkaaGreat
open Go Go.Sort Go.RowKit
set_option linter.unusedVariables false

def mCountedS : List CntD → Nat
  | [] => 0
  | d :: l => d.1.length + 1 + mCountedS l
def mkCountedS : Int → List CntD → List CntD
  | _, [] => []
  | k, d :: l => (iota k d.1.length, k + (d.1.length : Int)) :: mkCountedS (k + (d.1.length : Int) + 1) l
theorem mkCountedS_length (k : Int) (l : List CntD) : (mkCountedS k l).length = l.length := by
  induction l generalizing k with
  | nil => rfl
  | cons d l ih => simp [mkCountedS, ih]
theorem mCountedS_snoc (l : List CntD) (d : CntD) : mCountedS (l ++ [d]) = mCountedS l + (d.1.length + 1) := by
  induction l with
  | nil => simp [mCountedS]
  | cons x l ih => simp only [List.cons_append, mCountedS, ih]; omega
theorem mkCountedS_snoc (k : Int) (l : List CntD) (d : CntD) : mkCountedS k (l ++ [d]) = mkCountedS k l ++ [(iota (k + (mCountedS l : Int)) d.1.length, k + (mCountedS l : Int) + (d.1.length : Int))] := by
  induction l generalizing k with
  | nil => simp [mkCountedS, mCountedS]
  | cons x l ih =>
    simp only [List.cons_append, mkCountedS, ih, mCountedS]
    have e : k + (x.1.length : Int) + 1 + (mCountedS l : Int) = k + ((x.1.length + 1 + mCountedS l : Nat) : Int) := by omega
    rw [e]
theorem mCountedS_take {l : List CntD} {i : Nat} {d : CntD} (h : l[i]? = some d) : mCountedS (l.take (i + 1)) = mCountedS (l.take i) + (d.1.length + 1) := by
  obtain ⟨hi, rfl⟩ := List.getElem?_eq_some_iff.1 h
  rw [List.take_succ_eq_append_getElem hi, mCountedS_snoc]
theorem mkCountedS_take {l : List CntD} {i : Nat} {d : CntD} (k : Int) (h : l[i]? = some d) : mkCountedS k (l.take (i + 1)) = mkCountedS k (l.take i) ++ [(iota (k + (mCountedS (l.take i) : Int)) d.1.length, k + (mCountedS (l.take i) : Int) + (d.1.length : Int))] := by
  obtain ⟨hi, rfl⟩ := List.getElem?_eq_some_iff.1 h
  rw [List.take_succ_eq_append_getElem hi, mkCountedS_snoc]
theorem mCountedS_take_le (l : List CntD) (i : Nat) : mCountedS (l.take i) ≤ mCountedS l := by
  induction l generalizing i with
  | nil => simp [mCountedS]
  | cons a l ih =>
    cases i with
    | zero => simp [mCountedS]
    | succ i => have := ih i; simp only [List.take_succ_cons, mCountedS]; omega

theorem len_le_mCountedS (l : List CntD) : l.length ≤ mCountedS l := by
  induction l with
  | nil => simp
  | cons x l ih => simp only [List.length_cons, mCountedS]; omega
theorem mark_setC {l : List CntD} {i : Nat} {d : CntD} (k : Int) (h : l[i]? = some d) : (mkCountedS k (l.take i) ++ l.drop i).set i (iota (k + (mCountedS (l.take i) : Int)) d.1.length, k + (mCountedS (l.take i) : Int) + (d.1.length : Int)) = mkCountedS k (l.take (i + 1)) ++ l.drop (i + 1) := by
  have hi := (List.getElem?_eq_some_iff.1 h).1
  rw [List.set_append_right _ _ (by rw [mkCountedS_length, List.length_take]; omega), mkCountedS_length, List.length_take, Nat.min_eq_left (by omega), Nat.sub_self, List.drop_eq_getElem_cons hi, List.set_cons_zero, mkCountedS_take k h, List.append_assoc]
  rfl


/-- Element i of the row: its slice is marked, then the number behind it is stored. -/
theorem cntMarked {w w1 w2 : World} {b off : Nat} {l : List CntD} {bss : List (List Nat)} {i : Nat} {k : Int} {a : Option Addr} {n c : Nat} {li : List Int} (h : RowO 2 COCnt w b off l bss) (hi : i < l.length) (hnd : (b :: bss.flatten).Nodup)
    (hs : w2 = w1.setCell ⟨b, off + i * 2 + 1, none⟩ (.int .i64 k)) (hk : inI k) (ho : OInts w1 (.slice a n c) li (bss.getD i [])) (hat : OnlyAt (bss.getD i []) w w1) (hc : w.cell? ⟨b, off + i * 2, none⟩ = some (.slice a n c)) :
    RowO 2 COCnt w2 b off (l.set i (li, k)) bss := by
  obtain ⟨cs, k1, k2, xa, xn, xc, rfl, _, _⟩ := h.2.2.2 i l[i] (List.getElem?_eq_getElem hi)
  have q0 : w.cell? ⟨b, off + i * 2 + 1, none⟩ = some (.int .i64 l[i].2) := by have := k2 1 (by omega); rw [← Nat.add_assoc] at this; simpa using this
  have hne : ∀ {x y : Nat}, x ≠ y → (⟨b, x, none⟩ : Addr) ≠ ⟨b, y, none⟩ := fun h e => h (congrArg Addr.off e)
  have hbn : b ∉ bss.getD i [] := fun hm => (List.nodup_cons.1 hnd).1 (getD_mem_flatten hm)
  have hblk := hat.block b h.2.1 hbn
  have hsz : w.heap.size ≤ w2.heap.size := Nat.le_trans hat.size (by rw [hs]; simp [World.setCell])
  have q1 : w1.cell? ⟨b, off + i * 2 + 1, none⟩ = some (.int .i64 l[i].2) := by rw [World.cell?_of_block (w := w) hblk]; exact q0
  have e0 : bss.set i (bss.getD i []) = bss := by
    have hi' : i < bss.length := by rw [h.1]; exact hi
    refine List.ext_getElem (by simp) fun j h1 h2 => ?_
    rw [List.getElem_set]
    split
    · rename_i e; subst e; simp [List.getD, List.getElem?_eq_getElem hi']
    · rfl
  have := h.upd (w' := w2) hsz i hi (li, k) (bss.getD i []) [.slice a n c, .int .i64 k]
    (fun t _ => by rw [hs, World.frozen?_setCell, World.frozen?_of_block (w := w) hblk])
    (fun t ht => by rw [hs, World.cell?_setCell_other _ _ _ _ (hne (by omega)), World.cell?_of_block (w := w) hblk]) rfl
    (fun e he => by
      rw [hs]
      have : e = 0 ∨ e = 1 := by omega
      rcases this with rfl | rfl
      · show World.cell? _ ⟨b, off + i * 2, none⟩ = _
        rw [World.cell?_setCell_other _ _ _ _ (hne (by omega)), World.cell?_of_block (w := w) hblk, hc]; rfl
      · show World.cell? _ ⟨b, off + i * 2 + 1, none⟩ = _
        rw [World.cell?_setCell_same _ _ _ q1]; rfl)
    ⟨a, n, c, rfl, hk, by
      rw [hs]
      exact ho.onlyAt (OnlyAt.setCell _ _ _ _) (fun x hx hm => hbn (by simp at hm; subst hm; exact hx))⟩
    (fun j cs d hj hd hc => by
      have n1 : ∀ x ∈ bss.getD j [], x ∉ [b] := fun x hx hm => (List.nodup_cons.1 hnd).1 (by simp at hm; subst hm; exact getD_mem_flatten hx)
      have n2 : ∀ x ∈ bss.getD j [], x ∉ bss.getD i [] := fun x hx hm => nodup_apart (List.nodup_cons.1 hnd).2 (fun e => hj e.symm) hm hx
      rw [hs]
      exact COCnt.onlyAt n1 (OnlyAt.setCell _ _ _ _) (hc.onlyAt n2 hat))
  rwa [e0] at this

set_option maxHeartbeats 4000000 in
theorem markCountedS_row (w : World) (b off n cap : Nat) (l : List CntD) (bss : List (List Nat)) (k : Int) (hr : RowO 2 COCnt w b off l bss) (hl : l.length = n) (hnd : (b :: bss.flatten).Nodup) (hm : mCountedS l ≤ 16777216) (hx : ∀ x ∈ l, x.1.length ≤ 1048576) (h0 : 0 ≤ k) (h1 : k ≤ 4503599600000000) :
    Calls Tryz.prog 31 #[.slice (some ⟨b, off, none⟩) n cap, .int .i64 k] w
      (GaveMark (k + mCountedS l) (b :: bss.flatten) (fun w' => RowO 2 COCnt w' b off (mkCountedS k l) bss) w) := by
  have hnl : n ≤ 16777216 := by rw [← hl]; exact Nat.le_trans (len_le_mCountedS l) hm
  have HR := Lib.hid hr
  have HL := Lib.hid hl
  have HND := Lib.hid hnd
  have HM := Lib.hid hm
  have HX := Lib.hid hx
  have hz := Lib.hid (fun w v l bs k a b c d => markIntS_any w v l bs k a b c d)
  clear hr hl hnd hm hx
  go_enter Tryz.func31, Tryz.ntmps31
  go_wp2_with fail
  go_loopw [1, 5] (fun kv iv wr => ∃ i : Nat, i ≤ n ∧ iv = .int .i64 i ∧ kv = .int .i64 (k + (mCountedS (l.take i) : Int)) ∧ OnlyAt (b :: bss.flatten) w wr ∧ RowO 2 COCnt wr b off (mkCountedS k (l.take i) ++ l.drop i) bss) (fun _ iv _ => n - (intOf iv).toNat)
  case atStart => exact ⟨0, by omega, rfl, by simp [mCountedS], OnlyAt.refl _ _, by simpa [mkCountedS] using HR.out⟩
  case round =>
    obtain ⟨i, hi, rfl, rfl, ho, hrow⟩ := hrel
    have HO := Lib.hid ho
    have HROW := Lib.hid hrow
    clear ho
    by_cases hil : i < n
    · have hll : i < l.length := by rw [HL.out]; exact hil
      obtain ⟨d, hd⟩ : ∃ d, l[i]? = some d := ⟨l[i]'hll, List.getElem?_eq_getElem hll⟩
      have hd2 : (mkCountedS k (l.take i) ++ l.drop i)[i]? = some d := by
        rw [List.getElem?_append_right (by rw [mkCountedS_length, List.length_take]; omega), mkCountedS_length, List.length_take, Nat.min_eq_left (by omega), Nat.sub_self, List.getElem?_drop]
        simpa using hd
      obtain ⟨cs, k1, k2, a, m, c, rfl, hdi, hO⟩ := hrow.2.2.2 i d hd2
      have q0 : wr.cell? ⟨b, off + i * 2, none⟩ = some (.slice a m c) := by have := k2 0 (by omega); simpa using this
      have q1 : wr.cell? ⟨b, off + i * 2 + 1, none⟩ = some (.int .i64 d.2) := by have := k2 1 (by omega); rw [← Nat.add_assoc] at this; simpa using this
      have hlen2 : (mkCountedS k (l.take i) ++ l.drop i).length = n := by rw [List.length_append, mkCountedS_length, List.length_take, List.length_drop, HL.out]; omega
      have f1 : wr.frozen? ⟨b, off + i * 2 + 1, none⟩ = false := by have := hrow.2.2.1 (i * 2 + 1) (by rw [hlen2]; omega); rwa [← Nat.add_assoc] at this
      have hblt := hrow.2.1
      have hMT := mCountedS_take hd
      have hle := mCountedS_take_le l (i + 1)
      have hmm := HM.out
      have hbn : b ∉ bss.getD i [] := fun hm => (List.nodup_cons.1 HND.out).1 (getD_mem_flatten hm)
      have HD := Lib.hid hd
      have Q0 := Lib.hid q0
      have Q1 := Lib.hid q1
      have F1 := Lib.hid f1
      have HBL := Lib.hid hblt
      have HBN := Lib.hid hbn
      have HLEN := Lib.hid hlen2
      have HOO := Lib.hid hO
      have hi0 : (0 : Int) ≤ i := by omega
      have hi1 : (i : Int) < n := by omega
      have hsl : mCountedS (l.take i) ≤ 16777216 := by omega
      have hdl : d.1.length ≤ 1048576 := HX.out d (List.mem_of_getElem? hd)
      have HMT := Lib.hid hMT
      clear hrow hd hd2 k1 k2 hdi hO hlen2 hMT hle hmm hbn hblt q1 f1
      obtain ⟨kk, hkk⟩ : ∃ kk : Int, k + (mCountedS (l.take i) : Int) = kk := ⟨_, rfl⟩
      have hk0 : 0 ≤ kk := by omega
      have hk1 : kk ≤ 4503599626321920 := by omega
      rw [hkk]
      have HKK := Lib.hid hkk
      clear hkk
      go_wp2_with fail
      refine (hz.out _ _ d.1 (bss.getD i []) _ HOO.out hdl (by omega) (by omega)).mono ?_
      rintro e w2 ⟨rfl, hr2, ho2⟩
      have z0 := ho2.cell HBN.out Q0.out
      have z1 := ho2.cell HBN.out Q1.out
      have z2 := ho2.frozen HBL.out HBN.out F1.out
      have hW := cntMarked (i := i) (k := kk + d.1.length) HROW.out (by rw [HLEN.out]; exact hil) HND.out rfl (by unfold inI; omega) hr2 ho2 Q0.out
      rw [← HKK.out, mark_setC k HD.out, HKK.out] at hW
      have HW := Lib.hid hW
      have HO3 : Hid (OnlyAt (b :: bss.flatten) w (w2.setCell ⟨b, off + i * 2 + 1, none⟩ (.int .i64 (kk + d.1.length)))) := HO.out.same ((ho2.wider (fun x hx => by simp only [List.mem_cons]; right; exact getD_mem_flatten hx)).same ((OnlyAt.setCell w2 b _ _).wider (fun x hx => by simp at hx; subst hx; simp)))
      obtain ⟨m1, hm1⟩ : ∃ m1 : Int, m1 = kk + d.1.length := ⟨_, rfl⟩
      have hm2 : 0 ≤ m1 := by omega
      have hm3 : m1 ≤ 4503599627370496 := by omega
      rw [← hm1] at HW HO3 ⊢
      have HM1 := Lib.hid hm1
      clear hr2 ho2 hW hm1
      go_wp2_with fail
      exact ⟨⟨i + 1, by omega, by simp, by rw [HMT.out, HM1.out, ← HKK.out]; congr 1; omega, HO3.out, HW.out⟩, by simp [intOf]; omega⟩
    · obtain rfl : i = n := by omega
      have hW := HROW.out
      rw [List.take_of_length_le (by rw [HL.out]; exact Nat.le_refl _), List.drop_eq_nil_of_le (by rw [HL.out]; exact Nat.le_refl _), List.append_nil] at hW
      have HW := Lib.hid hW
      have HT : Hid (l.take i = l) := List.take_of_length_le (by rw [HL.out]; exact Nat.le_refl _)
      clear hW hrow
      go_wp2_with fail
      go_ret
      exact ⟨ret_n (by rw [HT.out]), HW.out, HO.out⟩

set_option maxHeartbeats 1000000 in
theorem markCountedS_nil (w : World) (a : Option Addr) (cap : Nat) (k : Int) (h0 : 0 ≤ k) (h1 : k ≤ 4503599627370496) :
    Calls Tryz.prog 31 #[.slice a 0 cap, .int .i64 k] w fun e w' => e = .returned (.int .i64 k) ∧ w = w' := by
  go_enter Tryz.func31, Tryz.ntmps31
  go_wp2_with fail
  refine wp_loop_rounds 1 ?_
  rw [rounds_succ]
  go_wp2_with fail
  go_ret
  exact ⟨rfl, rfl⟩
theorem markCountedSW (w : World) (v : Value) (d : List CntD) (bs : List Nat) (k : Int) (h : ROCountedS w v d bs) (hnd : bs.Nodup) (hm : mCountedS d ≤ 16777216) (hx : ∀ x ∈ d, x.1.length ≤ 1048576) (h0 : 0 ≤ k) (h1 : k ≤ 4503599600000000) :
    Calls Tryz.prog 31 #[v, .int .i64 k] w (GaveMark (k + mCountedS d) bs (fun w' => ROCountedS w' v (mkCountedS k d) bs) w) := by
  obtain ⟨a, n, c, rfl, h⟩ := h
  rcases h with ⟨a', c', e, hc, rfl, rfl⟩ | ⟨b, off, n', cap, bss, e, h2, h3, h4, h5, rfl, h6⟩
  · cases e
    refine (markCountedS_nil w _ _ k h0 (by omega)).mono ?_
    rintro e w' ⟨rfl, rfl⟩
    exact ⟨ret_n (by simp [mCountedS]), ⟨_, _, _, rfl, .inl ⟨_, _, rfl, hc, rfl, rfl⟩⟩, OnlyAt.refl _ _⟩
  · cases e
    refine (markCountedS_row w b off n c d bss k h6 h2 hnd hm hx h0 h1).mono ?_
    rintro e w' ⟨rfl, hr, ho⟩
    exact ⟨rfl, ⟨_, _, _, rfl, .inr ⟨b, off, n, c, bss, rfl, by rw [mkCountedS_length]; exact h2, h3, h4, h5, rfl, hr⟩⟩, ho⟩

theorem mkCountedS_get {l : List CntD} {i : Nat} {d : CntD} (k : Int) (h : l[i]? = some d) : (mkCountedS k l)[i]? = some (iota (k + (mCountedS (l.take i) : Int)) d.1.length, k + (mCountedS (l.take i) : Int) + (d.1.length : Int)) := by
  induction l generalizing i k with
  | nil => simp at h
  | cons x l ih =>
    cases i with
    | zero =>
      simp at h; subst h
      simp [mkCountedS, mCountedS]
    | succ i =>
      simp only [List.getElem?_cons_succ] at h
      simp only [mkCountedS, List.getElem?_cons_succ, ih _ h, List.take_succ_cons, mCountedS]
      have e : k + (x.1.length : Int) + 1 + (mCountedS (l.take i) : Int) = k + ((x.1.length + 1 + mCountedS (l.take i) : Nat) : Int) := by omega
      rw [e]

set_option maxHeartbeats 4000000 in
theorem heldCountedSW (w : World) (v : Value) (l : List CntD) (k : Int) (h : RdCountedS w v (mkCountedS k l)) (hm : mCountedS l ≤ 16777216) (hx : ∀ x ∈ l, x.1.length ≤ 1048576) (h0 : 0 ≤ k) (h1 : k ≤ 4503599600000000) :
    Calls Tryz.prog 32 #[v, .int .i64 k] w (GaveInt w (k + mCountedS l)) := by
  obtain ⟨a, n, c, rfl, h⟩ := h
  obtain ⟨hl, hn, hmm, hcell⟩ := h.at
  rw [mkCountedS_length] at hl
  have hnl : n ≤ 16777216 := by rw [← hl]; exact Nat.le_trans (len_le_mCountedS l) hm
  have HC := Lib.hid hcell
  have HL := Lib.hid hl
  have HM := Lib.hid hm
  have HX := Lib.hid hx
  have hz := Lib.hid (fun w v l k a b c d e => heldIntS_any w v l k a b c d e)
  unfold maxLen at hmm
  clear h hcell hl hm hx
  go_enter Tryz.func32, Tryz.ntmps32
  go_wp2_with fail
  go_loopw [1, 5] (fun kv iv wr => ∃ i : Nat, i ≤ n ∧ iv = .int .i64 i ∧ kv = .int .i64 (k + (mCountedS (l.take i) : Int)) ∧ Below w.heap.size w wr) (fun _ iv _ => n - (intOf iv).toNat)
  case atStart => exact ⟨0, by omega, rfl, by simp [mCountedS], Below.refl _ _⟩
  case round =>
    obtain ⟨i, hi, rfl, rfl, hb⟩ := hrel
    have HB := Lib.hid hb
    by_cases hil : i < n
    · have hll : i < l.length := by rw [HL.out]; exact hil
      obtain ⟨b, off, rfl, hbw, hc⟩ := HC.out (by omega)
      obtain ⟨d, hd⟩ : ∃ d, l[i]? = some d := ⟨l[i]'hll, List.getElem?_eq_getElem hll⟩
      obtain ⟨ea, em, ec, c0, c1, hdi, hints⟩ := cntAt (n := n) hc i _ (mkCountedS_get k hd)
      replace c0 := cellk hb c0
      replace c1 := cellk hb c1
      have HV := Lib.hid (hints.below hb)
      have hMT := mCountedS_take hd
      have hle := mCountedS_take_le l (i + 1)
      have hmm := HM.out
      have hi0 : (0 : Int) ≤ i := by omega
      have hi1 : (i : Int) < n := by omega
      have hsl : mCountedS (l.take i) ≤ 16777216 := by omega
      have hdl : d.1.length ≤ 1048576 := HX.out d (List.mem_of_getElem? hd)
      have HMT := Lib.hid hMT
      obtain ⟨kk, hkk⟩ : ∃ kk : Int, k + (mCountedS (l.take i) : Int) = kk := ⟨_, rfl⟩
      have hk0 : 0 ≤ kk := by omega
      have hk1 : kk ≤ 4503599626321920 := by omega
      simp only [hkk] at c0 c1 HV ⊢
      have HKK := Lib.hid hkk
      have hcall := Lib.hid (hz.out wr (.slice ea em ec) (iota kk d.1.length) kk HV.out (by rw [iota_length]) (by rw [iota_length]; exact hdl) (by omega) (by omega))
      rw [iota_length] at hcall
      have C1 := Lib.hid c1
      clear hc hbw hb hd hints hdi hMT hle hmm hkk HV c1
      go_wp2_with fail
      refine hcall.out.mono ?_
      rintro e w2 ⟨rfl, hb⟩
      have HB2 := Lib.hid (bnext HB.out hb)
      have z1 := cellk hb C1.out
      obtain ⟨m1, hm1⟩ : ∃ m1 : Int, m1 = kk + d.1.length := ⟨_, rfl⟩
      have hm2 : 0 ≤ m1 := by omega
      have hm3 : m1 ≤ 4503599627370496 := by omega
      have hm4 : ¬ m1 < 0 := by omega
      rw [← hm1] at z1 ⊢
      have HM1 := Lib.hid hm1
      clear hb hm1
      go_wp2_with fail
      exact ⟨⟨i + 1, by omega, by simp, by rw [HMT.out, HM1.out, ← HKK.out]; congr 1; omega, HB2.out⟩, by simp [intOf]; omega⟩
    · obtain rfl : i = n := by omega
      have HT : Hid (l.take i = l) := List.take_of_length_le (by rw [HL.out]; exact Nat.le_refl _)
      clear hb
      go_wp2_with fail
      go_ret
      exact ⟨ret_n (by rw [HT.out]), HB.out⟩
end Go.Proofs.YtfojllkkbdpfkaaGreat

/-! S6cnt -/
namespace Go.Proofs.YtfojllkkbdpfkaaGreat
open Go Go.Sort Go.RowKit
set_option linter.unusedVariables false

def zC : CntD := ([], 0)
/-- One more tuple of a list in order: it is counted with the last one, or begins anew. -/
def cntStep (out : List CntD) (x : List Int) : List CntD :=
  if 0 < out.length ∧ (out.getD (out.length - 1) zC).1 = x then out.set (out.length - 1) (x, (out.getD (out.length - 1) zC).2 + 1) else out ++ [(x, 1)]
def cntTo (l : List (List Int)) : Nat → List CntD
  | 0 => []
  | i + 1 => cntStep (cntTo l i) (l.getD i [])
def cntL (l : List (List Int)) : List CntD := cntTo l l.length
theorem cntStep_len (out : List CntD) (x : List Int) : (cntStep out x).length ≤ out.length + 1 := by
  unfold cntStep; split <;> simp
theorem cntTo_len (l : List (List Int)) : ∀ i, (cntTo l i).length ≤ i
  | 0 => Nat.le_refl _
  | i + 1 => Nat.le_trans (cntStep_len _ _) (Nat.succ_le_succ (cntTo_len l i))
theorem cntTo_cnt (l : List (List Int)) : ∀ i, ∀ d ∈ cntTo l i, 1 ≤ d.2 ∧ d.2 ≤ i
  | 0, d, h => by cases h
  | i + 1, d, h => by
    have ih := cntTo_cnt l i
    have : d ∈ cntStep (cntTo l i) (l.getD i []) := h
    unfold cntStep at this
    split at this
    · rename_i hc
      rcases List.mem_or_eq_of_mem_set this with h1 | h1
      · have := ih d h1; omega
      · have h2 : (cntTo l i).getD ((cntTo l i).length - 1) zC ∈ cntTo l i := by
          rw [List.getD_eq_getElem?_getD, List.getElem?_eq_getElem (by omega)]; exact List.getElem_mem (by omega)
        have := ih _ h2
        rw [h1]
        show 1 ≤ _ + 1 ∧ _ + 1 ≤ ((i + 1 : Nat) : Int)
        omega
    · rcases List.mem_append.1 this with h1 | h1
      · have := ih d h1; omega
      · rw [List.mem_singleton.1 h1]
        show (1 : Int) ≤ 1 ∧ (1 : Int) ≤ ((i + 1 : Nat) : Int)
        omega
theorem cntTo_mem (l : List (List Int)) : ∀ i, i ≤ l.length → ∀ d ∈ cntTo l i, d.1 ∈ l
  | 0, _, d, h => by cases h
  | i + 1, hi, d, h => by
    have ih := cntTo_mem l i (by omega)
    have hx : l.getD i [] ∈ l := by rw [List.getD_eq_getElem?_getD, List.getElem?_eq_getElem (by omega)]; exact List.getElem_mem (by omega)
    have : d ∈ cntStep (cntTo l i) (l.getD i []) := h
    unfold cntStep at this
    split at this
    · rcases List.mem_or_eq_of_mem_set this with h1 | h1
      · exact ih d h1
      · rw [h1]; exact hx
    · rcases List.mem_append.1 this with h1 | h1
      · exact ih d h1
      · rw [List.mem_singleton.1 h1]; exact hx
/-- The elements of a row of counted tuples: the tuples lie in the world W. -/
def ElsC (W : World) (cs : List Value) (l : List CntD) : Prop := ∀ j d, l[j]? = some d → ∃ a n c, cs[j * 2]? = some (.slice a n c) ∧ cs[j * 2 + 1]? = some (.int .i64 d.2) ∧ Ints W (.slice a n c) d.1
theorem ElsC.snoc {W : World} {cs : List Value} {l : List CntD} (h : ElsC W cs l) (hl : cs.length = l.length * 2) {a : Option Addr} {n c : Nat} {x : List Int} {k : Int} (hx : Ints W (.slice a n c) x) : ElsC W (cs ++ [.slice a n c, .int .i64 k]) (l ++ [(x, k)]) := by
  intro j d hd
  rcases Nat.lt_or_ge j l.length with hj | hj
  · rw [List.getElem?_append_left hj] at hd
    obtain ⟨a', n', c', h1, h2, h3⟩ := h j d hd
    exact ⟨a', n', c', by rw [List.getElem?_append_left (by omega)]; exact h1, by rw [List.getElem?_append_left (by omega)]; exact h2, h3⟩
  · rw [List.getElem?_append_right hj] at hd
    have e : j = l.length := by
      rcases Nat.lt_or_ge j (l.length + 1) with h1 | h1
      · omega
      · rw [List.getElem?_eq_none (by simp; omega)] at hd; cases hd
    subst e
    rw [Nat.sub_self] at hd
    cases hd
    exact ⟨a, n, c, by rw [List.getElem?_append_right (by omega), hl, Nat.sub_self]; rfl, by rw [List.getElem?_append_right (by omega), hl, Nat.add_sub_cancel_left]; rfl, hx⟩
theorem ElsC.inc {W : World} {cs : List Value} {l : List CntD} (h : ElsC W cs l) (hl : cs.length = l.length * 2) {m : Nat} (hm : m < l.length) {x : List Int} {k : Int} (hx : (l.getD m zC).1 = x) : ElsC W (cs.set (m * 2 + 1) (.int .i64 k)) (l.set m (x, k)) := by
  intro j d hd
  by_cases e : m = j
  · subst e
    rw [List.getElem?_set_self hm] at hd
    cases hd
    obtain ⟨a', n', c', h1, h2, h3⟩ := h m l[m] (List.getElem?_eq_getElem hm)
    have e2 : l.getD m zC = l[m] := by simp [List.getD, List.getElem?_eq_getElem hm]
    rw [e2] at hx
    exact ⟨a', n', c', by rw [List.getElem?_set_ne (by omega)]; exact h1, by rw [List.getElem?_set_self (by omega)], by rw [← hx]; exact h3⟩
  · rw [List.getElem?_set_ne e] at hd
    obtain ⟨a', n', c', h1, h2, h3⟩ := h j d hd
    exact ⟨a', n', c', by rw [List.getElem?_set_ne (by omega)]; exact h1, by rw [List.getElem?_set_ne (by omega)]; exact h2, h3⟩
theorem rdOfCnt {W w : World} {v : Value} {cs : List Value} {l : List CntD} (h : BuiltC 98 2 W w v l.length cs) (he : ElsC W cs l) (hi : ∀ d ∈ l, inI d.2) : RdCountedS w v l := by
  rcases h.form with ⟨rfl, h0⟩ | ⟨g, cap, rfl, h1, h2⟩
  · exact ⟨_, _, _, rfl, none, 0, 0, rfl, h0, Nat.le_refl _, Nat.zero_le _, fun h => by omega⟩
  · refine ⟨_, _, _, rfl, _, _, _, rfl, rfl, h1, h2, fun _ => ⟨g, 0, rfl, h.lt.2, fun j hj => ?_⟩⟩
    obtain ⟨a, n, c, q1, q2, q3⟩ := he j l[j] (List.getElem?_eq_getElem hj)
    refine ⟨[.slice a n c, .int .i64 l[j].2], rfl, fun i hi' => ?_, a, n, c, rfl, hi _ (List.getElem_mem hj), q3.below h.2⟩
    rw [Nat.zero_add, h.cell _ (by omega)]
    have : i = 0 ∨ i = 1 := by omega
    rcases this with rfl | rfl
    · exact q1
    · exact q2
theorem info_Counted : (Tryz.prog.info? 98).map (fun i => (i.zero, i.size, i.bytes)) = some (some (.agg #[.slice none 0 0, .int .i64 0]), 2, 32) := by kernel_rfl
/-- The different heads, each with the number of its bindings. -/
def countsN (s : List Int) (d : QueryD) (db : List AtomD) : List CntD := cntL (sortL ((bindingsN s d db).map (tupL d.1)) false)

set_option maxRecDepth 100000 in
set_option maxHeartbeats 8000000 in
theorem sCountAnswers_any (w : World) (vs vq vdb : Value) (s : List Int) (d : QueryD) (db : List AtomD) (hs : RdSchema w vs s) (hq : RdQuery w vq d) (hdb : RdAtomS w vdb db) (hsz : sizeAtomS d.2 ≤ 1048576) (hsz1 : d.1.length ≤ 1048576) :
    Calls Tryz.prog 28 #[vs, vq, vdb] w (fun e w' => ∃ r0, e = .returned r0 ∧ RdCountedS w' r0 (countsN s d db) ∧ Below w.heap.size w w') := by
  obtain ⟨a0, n0, c0, a1, n1, c1, e, _⟩ := id hq
  subst e
  obtain ⟨sa, sn, sc, e, _⟩ := id hs
  subst e
  have HB := Lib.hid (fun w' (hb : Below w.heap.size w w') => sBindings_any w' _ _ _ s d db (hs.below hb) (hq.below hb) (hdb.below hb) hsz)
  have HH := Lib.hid (fun w' vb (hb : Below w.heap.size w w') hr => sHeads6_any w' _ vb d (bindingsN s d db) (hq.below hb) hr hsz1 (Nat.le_trans (bindings_len s d db) (by decide)) bindings_row)
  have HS := Lib.hid (fun w' v hr => sSort6_any w' v ((bindingsN s d db).map (tupL d.1)) false hr (fun x hx => by
    obtain ⟨b, _, rfl⟩ := List.mem_map.1 hx
    rw [tupL, List.length_map]; exact hsz1) (by rw [List.length_map]; exact Nat.le_trans (bindings_len s d db) (by decide)))
  have HLS : Hid ((sortL ((bindingsN s d db).map (tupL d.1)) false).length ≤ 331776) := by
    unfold Hid
    rw [(sortL_perm _).length_eq, List.length_map]; exact bindings_len s d db
  have hEq := Lib.hid (fun w v v' l l' a b => sInts_any w v v' l l' a b)
  clear hs hq hdb hsz hsz1
  unfold countsN
  generalize sortL ((bindingsN s d db).map (tupL d.1)) false = lst at *
  go_enter Tryz.func28, Tryz.ntmps28
  go_wp2_with fail
  have hb2 : Below w.heap.size w ((w.alloc (.cells #[.slice sa sn sc] 34)).alloc (.cells #[.slice a0 n0 c0, .slice a1 n1 c1] 38)) := ((Below.refl _ _).alloc (Nat.le_refl _) _).alloc (by simp) _
  have k0 : ((w.alloc (.cells #[.slice sa sn sc] 34)).alloc (.cells #[.slice a0 n0 c0, .slice a1 n1 c1] 38)).cell? ⟨w.heap.size, 0, none⟩ = some (.slice sa sn sc) := by simp
  have k1 : ((w.alloc (.cells #[.slice sa sn sc] 34)).alloc (.cells #[.slice a0 n0 c0, .slice a1 n1 c1] 38)).cell? ⟨w.heap.size + 1, 0, none⟩ = some (.slice a0 n0 c0) := by simp
  have k2 : ((w.alloc (.cells #[.slice sa sn sc] 34)).alloc (.cells #[.slice a0 n0 c0, .slice a1 n1 c1] 38)).cell? ⟨w.heap.size + 1, 1, none⟩ = some (.slice a1 n1 c1) := by simp
  generalize (w.alloc (.cells #[.slice sa sn sc] 34)).alloc (.cells #[.slice a0 n0 c0, .slice a1 n1 c1] 38) = w2 at *
  have HB2 := Lib.hid hb2
  clear hb2
  go_region_law (first
    | (go_simp; go_at_call 12; refine (HB.out _ (HB2.out.trans ((Below.refl _ _).drew.mono HB2.out.size))).mono ?_; rintro e3 w3 ⟨v3, bs3, rfl, ho3, hf3, hb3⟩; have HB3 := Lib.hid (bnext (Below.refl w2.heap.size w2).drew hb3); have HO3 := Lib.hid ho3; have HW3 := Lib.hid (bnext HB2.out HB3.out); have k13 := cellk HB3.out k1; have k23 := cellk HB3.out k2; have k03 := cellk HB3.out k0; clear ho3 hf3 hb3)
    | (go_simp; go_at_call 74; refine (HH.out _ v3 HW3.out HO3.out.rd).mono ?_; rintro e4 w4 ⟨v4, bs4, rfl, ho4, hf4, hb4⟩; have HO4 := Lib.hid ho4; have HW4 := Lib.hid (bnext HW3.out hb4); clear ho4 hf4 hb4)
    | (go_simp; go_at_call 73; refine (HS.out _ v4 HO4.out.rd).mono ?_; rintro e5 w5 ⟨v5, bs5, rfl, ho5, hf5, hb5⟩; have HO5 := Lib.hid ho5.rd; have HW5 := Lib.hid (bnext HW4.out hb5); clear ho5 hf5 hb5))
  all_goals
    obtain ⟨a, n, c, rfl, h⟩ := HO5.out
    obtain ⟨hl, hn, hm, hcell⟩ := h.at
    unfold maxLen at hm
    have HC := Lib.hid hcell
    have HL := Lib.hid hl
    have hn6 : n ≤ 331776 := by rw [← hl]; exact HLS.out
    have HLIT : Hid (BuiltC 98 2 w5 (w5.alloc (.cells #[] 98)) (.slice (some ⟨w5.heap.size, 0, none⟩) 0 0) 0 []) := BuiltC.lit 98 2 w5 w5 0 [] (Nat.zero_le _) rfl (Below.refl _ _)
    clear h hcell hl HO5 HB HH HS
    go_wp2_with fail
    go_loopw [8, 9] (fun ov iv wr => ∃ i : Nat, i ≤ n ∧ iv = .int .i64 i ∧ ∃ cs, Hid (BuiltC 98 2 w5 wr ov (cntTo lst i).length cs) ∧ Hid (ElsC w5 cs (cntTo lst i))) (fun _ iv _ => n - (intOf iv).toNat)
    case atStart => exact ⟨0, by omega, rfl, [], HLIT, fun j d h => by simp [cntTo] at h⟩
    case round =>
      obtain ⟨i, hi, rfl, cs, HP, HEL⟩ := hrel
      obtain ⟨ov, hov⟩ : ∃ ov, ov = u8 := ⟨_, rfl⟩
      subst hov
      have hbq := HP.out.2
      have hlenT := cntTo_len lst i
      have hcnt := cntTo_cnt lst i
      by_cases hlt : i < n
      · obtain ⟨b, off, rfl, hbw, hc⟩ := HC.out (by omega)
        obtain ⟨x, hd⟩ : ∃ e, lst[i]? = some e := ⟨lst[i]'(by rw [HL.out]; exact hlt), List.getElem?_eq_getElem (by rw [HL.out]; exact hlt)⟩
        obtain ⟨ea, em, ec, c1q, hints⟩ := intsAt (n := n) hc i x hd
        have hnx : cntTo lst (i + 1) = cntStep (cntTo lst i) x := by show cntStep _ (lst.getD i []) = _; rw [List.getD_eq_getElem?_getD, hd]; rfl
        have hi0 : (0 : Int) ≤ i := by omega
        have hi1 : (i : Int) < n := by omega
        have E1 := Lib.hid (cellk hbq c1q)
        have HX5 := Lib.hid hints
        have HX := Lib.hid (hints.below hbq)
        have hclen := HP.out.len
        generalize cntTo lst i = L at *
        obtain ⟨oa, oc, rfl, hoa, hoc⟩ : ∃ oa oc, ov = .slice oa L.length oc ∧ (0 < L.length → ∃ g, oa = some ⟨g, 0, none⟩) ∧ oc ≤ maxLen := by
          rcases HP.out.form with ⟨rfl, h0⟩ | ⟨g, cap, rfl, h1, h2⟩
          · exact ⟨none, 0, by rw [h0], fun h => by omega, Nat.zero_le _⟩
          · exact ⟨_, cap, rfl, fun _ => ⟨g, rfl⟩, h2⟩
        unfold maxLen at hoc
        have HCL : Hid (cs.length = L.length * 2) := hclen
        have HCNT := Lib.hid hcnt
        have HNX := Lib.hid hnx
        obtain ⟨m, hmL⟩ : ∃ m, L.length = m := ⟨_, rfl⟩
        rw [hmL] at HP hoa hlenT ⊢
        have HML := Lib.hid hmL
        clear hc hbw hd c1q hints hbq hclen hcnt hnx hmL
        by_cases hm0 : m = 0
        · have HAPP : Hid (cntTo lst (i + 1) = L ++ [(x, 1)]) := by unfold Hid; rw [HNX.out]; unfold cntStep; rw [if_neg (fun h => by have := HML.out; omega)]
          subst hm0
          clear hoa
          have e0 : ((0 : Int) < ((0 : Nat) : Int)) = False := by simp
          go_wp2_with fail
          refine wp_region_quiet_below (by kernel_rfl) (by kernel_rfl) ?_
          repeat (any_goals (first | go_big_quiet_step (fail) | quiet_step (fail)))
          refine wpQuiet_nil ?_
          intro _ hw'
          obtain ⟨⟨dq, osq⟩, hw''⟩ := hw'
          subst hw''
          have hby : Below wr.heap.size wr (grow (redrawn wr dq) osq) := below_regrown _ _ _
          have HBY := Lib.hid hby
          have y1 := cellk hby E1.out
          generalize grow (redrawn wr dq) osq = wy at *
          have HGR := Lib.hid (HP.out.grow hby)
          clear hby
          go_wp2_with (at_builtin; refine wpList_app1D rfl (.tmp 54) (.tmp 60) 51 rfl 98 (.agg #[.slice none 0 0, .int .i64 0]) 2 32 Tryz.underlying51 info_Counted (by decide) (by decide) (by rfl) (.slice oa 0 oc) 0 cs rfl HGR.out [.slice ea em ec, .int .i64 1] rfl (by simp [Value.oneCell']) (by first | rfl | (simp; rfl)) (by omega) ?_)
          intro v' w3 hown' ko hbl
          have HNEW : Hid (BuiltC 98 2 w5 w3 v' (cntTo lst (i + 1)).length (cs ++ [.slice ea em ec, .int .i64 1])) := by unfold Hid; rw [HAPP.out, List.length_append, HML.out]; exact hown'
          have HELN : Hid (ElsC w5 (cs ++ [.slice ea em ec, .int .i64 1]) (cntTo lst (i + 1))) := by unfold Hid; rw [HAPP.out]; exact HEL.out.snoc HCL.out HX5.out
          clear hown' ko hbl
          go_wp2_with fail
          exact ⟨⟨i + 1, by omega, by simp, _, HNEW, HELN⟩, by simp [intOf]; omega⟩
        · obtain ⟨k, rfl⟩ : ∃ k, m = k + 1 := ⟨m - 1, by omega⟩
          obtain ⟨g, rfl⟩ := hoa (by omega)
          have hkL : k < L.length := by rw [HML.out]; omega
          obtain ⟨y, hy⟩ : ∃ y, L[k]? = some y := ⟨L[k], List.getElem?_eq_getElem hkL⟩
          obtain ⟨pa, pm, pc, q1, q2, q3⟩ := HEL.out k y hy
          have hyD : L.getD k zC = y := by simp [List.getD, hy]
          have hcy := HCNT.out y (List.mem_of_getElem? hy)
          have d1 : wr.cell? ⟨g, k * 2, none⟩ = some (.slice pa pm pc) := by rw [HP.out.cell _ (by omega)]; exact q1
          have d2 : wr.cell? ⟨g, k * 2 + 1, none⟩ = some (.int .i64 y.2) := by rw [HP.out.cell _ (by omega)]; exact q2
          have r1 := cell_regrown (w := wr) E1.out
          have r2 := cell_regrown (w := wr) d1
          have e1 : (((k + 1 : Nat)) : Int) - 1 = k := by omega
          have e2 : (0 : Int) < ((k + 1 : Nat) : Int) := by omega
          have e3 : (0 : Int) ≤ k := by omega
          have e4 : (k : Int) < ((k + 1 : Nat) : Int) := by omega
          have hcall := Lib.hid (fun dn os => hEq.out (grow (redrawn wr dn) os) (.slice pa pm pc) (.slice ea em ec) y.1 x ((q3.below HP.out.2).below (below_regrown wr dn os)) (HX.out.below (below_regrown wr dn os)))
          have D2 := Lib.hid d2
          have HYD := Lib.hid hyD
          obtain ⟨c, hcc⟩ : ∃ c, c = y.2 := ⟨_, rfl⟩
          rw [← hcc] at hcy D2
          have HCC := Lib.hid hcc
          have hc1 : 1 ≤ c := hcy.1
          have hc2 : c ≤ 331776 := by omega
          clear hy hkL q1 q2 q3 d1 d2 hyD hcy hcc hoa
          by_cases heq : y.1 = x
          · rw [decide_eq_true heq] at hcall
            have HINC : Hid (cntTo lst (i + 1) = L.set k (x, c + 1)) := by unfold Hid; rw [HNX.out]; unfold cntStep; rw [HML.out, Nat.add_sub_cancel, HYD.out, if_pos ⟨by omega, heq⟩, HCC.out]
            have HXE : Hid ((L.getD k zC).1 = x) := by unfold Hid; rw [HYD.out]; exact heq
            clear heq
            go_wp2_with fail
            refine wp_region_quiet_below (by kernel_rfl) (by kernel_rfl) ?_
            repeat (any_goals (first | go_big_quiet_step ((go_at_call 75; exact Calls.regrown_of (hcall.out _ _))) | quiet_step ((go_at_call 75; exact Calls.regrown_of (hcall.out _ _)))))
            refine wpQuiet_nil ?_
            intro _ hw'
            obtain ⟨⟨dq, osq⟩, hw''⟩ := hw'
            subst hw''
            have hby : Below wr.heap.size wr (grow (redrawn wr dq) osq) := below_regrown _ _ _
            have HBY := Lib.hid hby
            have z1 := cellk hby D2.out
            have z2 := frok hby D2.out (HP.out.frozen _)
            generalize grow (redrawn wr dq) osq = wy at *
            have HST := Lib.hid ((HP.out.grow hby).store (k * 2 + 1) (.int .i64 (c + 1)))
            have HNEW : Hid (BuiltC 98 2 w5 (wy.setCell ⟨g, k * 2 + 1, none⟩ (.int .i64 (c + 1))) (.slice (some ⟨g, 0, none⟩) (k + 1) oc) (cntTo lst (i + 1)).length (cs.set (k * 2 + 1) (.int .i64 (c + 1)))) := by unfold Hid; rw [HINC.out, List.length_set, HML.out]; exact HST.out
            have HELN : Hid (ElsC w5 (cs.set (k * 2 + 1) (.int .i64 (c + 1))) (cntTo lst (i + 1))) := by unfold Hid; rw [HINC.out]; exact HEL.out.inc HCL.out (by rw [HML.out]; omega) HXE.out
            clear hby hcall r1 r2
            go_wp2_with fail
            exact ⟨⟨i + 1, by omega, by simp, _, HNEW, HELN⟩, by simp [intOf]; omega⟩
          · rw [decide_eq_false heq] at hcall
            have HAPP : Hid (cntTo lst (i + 1) = L ++ [(x, 1)]) := by unfold Hid; rw [HNX.out]; unfold cntStep; rw [HML.out, Nat.add_sub_cancel, HYD.out, if_neg (fun h => heq h.2)]
            clear heq
            go_wp2_with fail
            refine wp_region_quiet_below (by kernel_rfl) (by kernel_rfl) ?_
            repeat (any_goals (first | go_big_quiet_step ((go_at_call 75; exact Calls.regrown_of (hcall.out _ _))) | quiet_step ((go_at_call 75; exact Calls.regrown_of (hcall.out _ _)))))
            refine wpQuiet_nil ?_
            intro _ hw'
            obtain ⟨⟨dq, osq⟩, hw''⟩ := hw'
            subst hw''
            have hby : Below wr.heap.size wr (grow (redrawn wr dq) osq) := below_regrown _ _ _
            have HBY := Lib.hid hby
            have y1 := cellk hby E1.out
            generalize grow (redrawn wr dq) osq = wy at *
            have HGR := Lib.hid (HP.out.grow hby)
            clear hby hcall r1 r2
            go_wp2_with (at_builtin; refine wpList_app1D rfl (.tmp 54) (.tmp 60) 51 rfl 98 (.agg #[.slice none 0 0, .int .i64 0]) 2 32 Tryz.underlying51 info_Counted (by decide) (by decide) (by rfl) (.slice (some ⟨g, 0, none⟩) (k + 1) oc) (k + 1) cs rfl HGR.out [.slice ea em ec, .int .i64 1] rfl (by simp [Value.oneCell']) (by first | rfl | (simp; rfl)) (by omega) ?_)
            intro v' w3 hown' ko hbl
            have HNEW : Hid (BuiltC 98 2 w5 w3 v' (cntTo lst (i + 1)).length (cs ++ [.slice ea em ec, .int .i64 1])) := by unfold Hid; rw [HAPP.out, List.length_append, HML.out]; exact hown'
            have HELN : Hid (ElsC w5 (cs ++ [.slice ea em ec, .int .i64 1]) (cntTo lst (i + 1))) := by unfold Hid; rw [HAPP.out]; exact HEL.out.snoc HCL.out HX5.out
            clear hown' ko hbl
            go_wp2_with fail
            exact ⟨⟨i + 1, by omega, by simp, _, HNEW, HELN⟩, by simp [intOf]; omega⟩
      · obtain rfl : i = n := by omega
        have HT : Hid (cntTo lst i = cntL lst) := by unfold Hid cntL; rw [HL.out]
        have HR := Lib.hid (rdOfCnt HP.out HEL.out (fun d h => by have := hcnt d h; unfold inI; omega))
        have HBR := Lib.hid (bnext HW5.out hbq)
        clear hbq hcnt hlenT
        go_wp2_with fail
        go_ret
        exact ⟨_, rfl, by rw [← HT.out]; exact HR.out, HBR.out⟩
end Go.Proofs.YtfojllkkbdpfkaaGreat

/-! I6cdat -/
namespace Go.Proofs.YtfojllkkbdpfkaaGreat
open Go Go.Sort Go.RowKit
set_option linter.unusedVariables false

/-- The groups of a list in order: their tuples are the list without repetitions, their numbers how often each comes. -/
theorem cntTo_comp {l : List (List Int)} (h : AscL l) : ∀ i, i ≤ l.length → cntTo l i = (compTo l i).map (fun t => (t, ((l.take i).count t : Int))) ∧ (0 < i → 0 < (compTo l i).length ∧ (compTo l i).getD ((compTo l i).length - 1) [] = l.getD (i - 1) [])
  | 0, _ => ⟨rfl, fun h => by omega⟩
  | i + 1, hi => by
    obtain ⟨ih, ihl⟩ := cntTo_comp h i (by omega)
    obtain ⟨hs, hm, hlt⟩ := compTo_strict h i (by omega)
    have hx : l[i]? = some (l.getD i []) := by rw [List.getD_eq_getElem?_getD, List.getElem?_eq_getElem (by omega)]; rfl
    have htk : l.take (i + 1) = l.take i ++ [l.getD i []] := by
      rw [List.take_succ_eq_append_getElem (by omega : i < l.length)]
      congr 1
      rw [List.getD_eq_getElem?_getD, List.getElem?_eq_getElem (by omega)]; rfl
    obtain ⟨x, hxe⟩ : ∃ x, x = l.getD i [] := ⟨_, rfl⟩
    rw [← hxe] at htk
    have hcs : cntTo l (i + 1) = cntStep (cntTo l i) x := by rw [hxe]; rfl
    rw [hcs, ih]
    by_cases hsk : 0 < i ∧ l.getD i [] = l.getD (i - 1) []
    · obtain ⟨h0, he⟩ := hsk
      obtain ⟨hp, hlast⟩ := ihl h0
      rw [compTo_skip h0 he, htk]
      have hlx : (compTo l i).getD ((compTo l i).length - 1) [] = x := by rw [hlast, hxe, he]
      refine ⟨?_, fun _ => ⟨hp, by rw [hlx, hxe]; rfl⟩⟩
      generalize compTo l i = C at *
      have hk : C.length - 1 < C.length := by omega
      have hCk : C[C.length - 1] = x := by rw [← hlx, List.getD_eq_getElem?_getD, List.getElem?_eq_getElem hk]; rfl
      unfold cntStep
      have hgd : (C.map (fun t => (t, ((l.take i).count t : Int)))).getD ((C.map (fun t => (t, ((l.take i).count t : Int)))).length - 1) zC = (x, ((l.take i).count x : Int)) := by
        rw [List.length_map, List.getD_eq_getElem?_getD, List.getElem?_map, List.getElem?_eq_getElem hk, hCk]; rfl
      rw [hgd, if_pos ⟨by rw [List.length_map]; exact hp, rfl⟩]
      refine List.ext_getElem (by simp) (fun j h1 h2 => ?_)
      have hjC : j < C.length := by simpa using h2
      rw [List.getElem_set, List.getElem_map, List.getElem_map, List.count_append]
      split
      · rename_i e
        have e2 : j = C.length - 1 := by rw [List.length_map] at e; exact e.symm
        subst e2
        rw [hCk]
        simp
      · rename_i e
        have hne : C[j] ≠ x := fun hh => by
          have hnd := hs.nodup
          have := (List.getElem_inj (h₀ := hjC) (h₁ := hk) hnd).1 (by rw [hh, hCk])
          rw [List.length_map] at e
          exact e this.symm
        have : ([x] : List (List Int)).count C[j] = 0 := by rw [List.count_eq_zero]; simp [hne]
        rw [this]; simp
    · have hkeep : compTo l (i + 1) = compTo l i ++ [x] := by
        rw [hxe]
        rcases Nat.eq_zero_or_pos i with h0 | h0
        · subst h0; rfl
        · exact compTo_keep (fun e => hsk ⟨h0, e⟩)
      have hnx : x ∉ compTo l i := by
        intro hmx
        rcases Nat.eq_zero_or_pos i with h0 | h0
        · subst h0; cases hmx
        · obtain ⟨j, hj, hje⟩ := (hm x).1 hmx
          have a1 := h.at (show j ≤ i - 1 by omega) (by omega)
          have a2 := h.at (show i - 1 ≤ i by omega) (by omega)
          rw [hje, hxe] at a1
          exact hsk ⟨h0, lessB_tri _ _ a2 a1⟩
      have hn0 : (l.take i).count x = 0 := by
        rw [List.count_eq_zero]
        intro hmx
        obtain ⟨j, hj1, hj2, hj3⟩ := mem_take_at hmx
        exact hnx ((hm x).2 ⟨j, hj1, hj3⟩)
      rw [hkeep, htk]
      refine ⟨?_, fun _ => ⟨by simp, by rw [hxe]; simp [List.getD]⟩⟩
      generalize compTo l i = C at *
      have hno : ¬ (0 < (C.map (fun t => (t, ((l.take i).count t : Int)))).length ∧ ((C.map (fun t => (t, ((l.take i).count t : Int)))).getD ((C.map (fun t => (t, ((l.take i).count t : Int)))).length - 1) zC).1 = x) := by
        rintro ⟨h1, h2⟩
        rw [List.length_map] at h1 h2
        have hk : C.length - 1 < C.length := by omega
        rw [List.getD_eq_getElem?_getD, List.getElem?_map, List.getElem?_eq_getElem hk] at h2
        exact hnx (by rw [← h2]; exact List.getElem_mem hk)
      unfold cntStep
      rw [if_neg hno, List.map_append]
      congr 1
      · refine List.map_congr_left (fun t ht => ?_)
        have hne : t ≠ x := fun e => hnx (by rw [← e]; exact ht)
        have : ([x] : List (List Int)).count t = 0 := by rw [List.count_eq_zero]; simp [hne]
        rw [List.count_append, this]; simp
      · simp [List.count_append, hn0]
theorem cntL_eq (l : List (List Int)) : cntL (sortL l false) = (sortL l true).map (fun t => (t, (l.count t : Int))) := by
  have ha := sortL_asc l false
  have hp := sortL_perm l
  unfold cntL
  rw [(cntTo_comp ha _ (Nat.le_refl _)).1, compTo_sort ha hp, List.take_length]
  refine List.map_congr_left (fun t _ => ?_)
  rw [hp.count_eq]
theorem counts_eq (s : List Int) (d : QueryD) (db : List AtomD) : countsN s d db = (answersN s d db).map (fun t => (t, (((bindingsN s d db).map (tupL d.1)).count t : Int))) := cntL_eq _
theorem answers_of (s : List Int) (d : QueryD) (db : List AtomD) : (countsN s d db).map (·.1) = answersN s d db := by
  rw [counts_eq, List.map_map]
  exact List.map_id'' (fun _ => rfl) _
end Go.Proofs.YtfojllkkbdpfkaaGreat
