/- The marks of a [][]int of up to 16777216 elements. -/
import Derived.Test.YtfojllkkbdpfkaaGreatIntAll
namespace Go.Proofs.YtfojllkkbdpfkaaGreat
open Go Go.Sort Go.RowKit
set_option linter.unusedVariables false

set_option maxHeartbeats 4000000 in
theorem markIntSS_rowW (w : World) (b off n cap : Nat) (l : List (List Int)) (bss : List (List Nat)) (k : Int) (hr : RowO 1 COInts w b off l bss) (hl : l.length = n) (hcap : cap ≤ maxLen) (hn : n ≤ cap) (hnd : (b :: bss.flatten).Nodup) (hm : mIntSS l ≤ 16777216) (hx : ∀ x ∈ l, x.length ≤ 1048576) (h0 : 0 ≤ k) (h1 : k ≤ 4503599600000000) :
    Calls Tryz.prog 24 #[.slice (some ⟨b, off, none⟩) n cap, .int .i64 k] w
      (GaveMark (k + mIntSS l) bss.flatten (fun w' => RowO 1 COInts w' b off (mkIntSS k l) bss) w) := by
  unfold maxLen at hcap
  unfold mIntSS at hm ⊢
  have HR := Lib.hid hr
  have HL := Lib.hid hl
  have HND := Lib.hid hnd
  have HM := Lib.hid hm
  have HX := Lib.hid hx
  clear hx
  have hz := Lib.hid (fun w v l bs k a b c d => markIntS_any w v l bs k a b c d)
  clear hr hl hnd hm
  go_enter Tryz.func24, Tryz.ntmps24
  go_wp2_with fail
  go_loopw [1, 5] (fun kv iv wr => ∃ i : Nat, i ≤ n ∧ iv = .int .i64 i ∧ kv = .int .i64 (k + (sumL (l.take i) : Int)) ∧ OnlyAt bss.flatten w wr ∧ RowO 1 COInts wr b off (mkIntSS k (l.take i) ++ l.drop i) bss) (fun _ iv _ => n - (intOf iv).toNat)
  case atStart => exact ⟨0, by omega, rfl, by simp [sumL], OnlyAt.refl _ _, by simpa [mkIntSS] using HR.out⟩
  case round =>
    obtain ⟨i, hi, rfl, rfl, ho, hrow⟩ := hrel
    have HO := Lib.hid ho
    have HROW := Lib.hid hrow
    clear ho
    by_cases hil : i < n
    · have hll : i < l.length := by rw [HL.out]; exact hil
      obtain ⟨d, hd⟩ : ∃ d, l[i]? = some d := ⟨l[i]'hll, List.getElem?_eq_getElem hll⟩
      have hd2 : (mkIntSS k (l.take i) ++ l.drop i)[i]? = some d := by
        rw [List.getElem?_append_right (by rw [mkIntSS_length, List.length_take]; omega), mkIntSS_length, List.length_take, Nat.min_eq_left (by omega), Nat.sub_self, List.getElem?_drop]
        simpa using hd
      obtain ⟨cs, k1, k2, a, m, c, rfl, hO⟩ := hrow.2.2.2 i d hd2
      have q1 : wr.cell? ⟨b, off + i, none⟩ = some (.slice a m c) := by have := k2 0 (by omega); simpa using this
      have hlen2 : (mkIntSS k (l.take i) ++ l.drop i).length = n := by rw [List.length_append, mkIntSS_length, List.length_take, List.length_drop, HL.out]; omega
      have hMT := sumL_take hd
      have hle := sumL_le l (i + 1)
      have hmm := HM.out
      have HD := Lib.hid hd
      have Q1 := Lib.hid q1
      have HLEN := Lib.hid hlen2
      have HOO := Lib.hid hO
      have hi0 : (0 : Int) ≤ i := by omega
      have hi1 : (i : Int) < n := by omega
      have hsl : sumL (l.take i) ≤ 16777216 := by omega
      have hdl : d.length ≤ 1048576 := HX.out d (List.mem_of_getElem? hd)
      have HMT := Lib.hid hMT
      clear hrow hd hd2 k1 k2 hO hlen2 hMT hle hmm
      obtain ⟨kk, hkk⟩ : ∃ kk : Int, k + (sumL (l.take i) : Int) = kk := ⟨_, rfl⟩
      have hk0 : 0 ≤ kk := by omega
      have hk1 : kk ≤ 4503599626321920 := by omega
      rw [hkk]
      have HKK := Lib.hid hkk
      clear hkk
      go_wp2_with fail
      refine (hz.out _ _ d (bss.getD i []) _ HOO.out hdl (by omega) (by omega)).mono ?_
      rintro e w2 ⟨rfl, hr2, ho2⟩
      have hW := intsMarked (i := i) HROW.out (by rw [HLEN.out]; exact hil) HND.out hr2 ho2 Q1.out
      rw [← HKK.out, mark_setI k HD.out] at hW
      have HW := Lib.hid hW
      have HO3 : Hid (OnlyAt bss.flatten w w2) := HO.out.same (ho2.wider (fun x hx => getD_mem_flatten hx))
      clear hr2 ho2 hW q1
      go_wp2_with fail
      exact ⟨⟨i + 1, by omega, by simp, by rw [HMT.out, ← HKK.out]; congr 1; omega, HO3.out, HW.out⟩, by simp [intOf]; omega⟩
    · obtain rfl : i = n := by omega
      have hW := HROW.out
      rw [List.take_of_length_le (by rw [HL.out]; exact Nat.le_refl _), List.drop_eq_nil_of_le (by rw [HL.out]; exact Nat.le_refl _), List.append_nil] at hW
      have HW := Lib.hid hW
      have HT : Hid (l.take i = l) := List.take_of_length_le (by rw [HL.out]; exact Nat.le_refl _)
      clear hW hrow
      go_wp2_with fail
      go_ret
      exact ⟨ret_n (by rw [HT.out]), HW.out, HO.out⟩

theorem markIntSSW (w : World) (v : Value) (d : List (List Int)) (bs : List Nat) (k : Int) (h : ROIntSS w v d bs) (hnd : bs.Nodup) (hm : mIntSS d ≤ 16777216) (hx : ∀ x ∈ d, x.length ≤ 1048576) (h0 : 0 ≤ k) (h1 : k ≤ 4503599600000000) :
    Calls Tryz.prog 24 #[v, .int .i64 k] w (GaveMark (k + mIntSS d) bs (fun w' => ROIntSS w' v (mkIntSS k d) bs) w) := by
  obtain ⟨a, n, c, rfl, h⟩ := h
  rcases h with ⟨a', c', e, hc, rfl, rfl⟩ | ⟨b, off, n', cap, bss, e, h2, h3, h4, h5, rfl, h6⟩
  · cases e
    refine (markIntSS_nil w _ _ k h0 (by omega)).mono ?_
    rintro e w' ⟨rfl, rfl⟩
    exact ⟨ret_n (by simp [mIntSS, sumL]), ⟨_, _, _, rfl, .inl ⟨_, _, rfl, hc, rfl, rfl⟩⟩, OnlyAt.refl _ _⟩
  · cases e
    refine (markIntSS_rowW w b off n c d bss k h6 h2 h5 h4 hnd hm hx h0 h1).mono ?_
    rintro e w' ⟨rfl, hr, ho⟩
    exact ⟨rfl, ⟨_, _, _, rfl, .inr ⟨b, off, n, c, bss, rfl, by rw [mkIntSS_length]; exact h2, h3, h4, h5, rfl, hr⟩⟩, ho.wider (fun x hx => by simp [hx])⟩

set_option maxHeartbeats 4000000 in
theorem heldIntSSW (w : World) (v : Value) (l : List (List Int)) (k : Int) (h : RdIntSS w v (mkIntSS k l)) (hm : mIntSS l ≤ 16777216) (hx : ∀ x ∈ l, x.length ≤ 1048576) (h0 : 0 ≤ k) (h1 : k ≤ 4503599600000000) :
    Calls Tryz.prog 25 #[v, .int .i64 k] w (GaveInt w (k + mIntSS l)) := by
  obtain ⟨a, n, c, rfl, h⟩ := h
  obtain ⟨hl, hn, hmm, hcell⟩ := h.at
  rw [mkIntSS_length] at hl
  unfold mIntSS at hm ⊢
  have HC := Lib.hid hcell
  have HL := Lib.hid hl
  have HM := Lib.hid hm
  have HX := Lib.hid hx
  clear hx
  have hz := Lib.hid (fun w v l k a b c d e => heldIntS_any w v l k a b c d e)
  unfold maxLen at hmm
  clear h hcell hl hm
  go_enter Tryz.func25, Tryz.ntmps25
  go_wp2_with fail
  go_loopw [1, 5] (fun kv iv wr => ∃ i : Nat, i ≤ n ∧ iv = .int .i64 i ∧ kv = .int .i64 (k + (sumL (l.take i) : Int)) ∧ Below w.heap.size w wr) (fun _ iv _ => n - (intOf iv).toNat)
  case atStart => exact ⟨0, by omega, rfl, by simp [sumL], Below.refl _ _⟩
  case round =>
    obtain ⟨i, hi, rfl, rfl, hb⟩ := hrel
    have HB := Lib.hid hb
    by_cases hil : i < n
    · have hll : i < l.length := by rw [HL.out]; exact hil
      obtain ⟨b, off, rfl, hbw, hc⟩ := HC.out (by omega)
      obtain ⟨d, hd⟩ : ∃ d, l[i]? = some d := ⟨l[i]'hll, List.getElem?_eq_getElem hll⟩
      obtain ⟨ea, em, ec, c1, hints⟩ := intsAt (n := n) hc i _ (mkIntSS_get k hd)
      replace c1 := cellk hb c1
      have HV := Lib.hid (hints.below hb)
      have hMT := sumL_take hd
      have hle := sumL_le l (i + 1)
      have hmm := HM.out
      have hi0 : (0 : Int) ≤ i := by omega
      have hi1 : (i : Int) < n := by omega
      have hsl : sumL (l.take i) ≤ 16777216 := by omega
      have hdl : d.length ≤ 1048576 := HX.out d (List.mem_of_getElem? hd)
      have HMT := Lib.hid hMT
      obtain ⟨kk, hkk⟩ : ∃ kk : Int, k + (sumL (l.take i) : Int) = kk := ⟨_, rfl⟩
      have hk0 : 0 ≤ kk := by omega
      have hk1 : kk ≤ 4503599626321920 := by omega
      rw [hkk] at HV ⊢
      have HKK := Lib.hid hkk
      have hcall := Lib.hid (hz.out wr (.slice ea em ec) (iota kk d.length) kk HV.out (by rw [iota_length]) (by rw [iota_length]; exact hdl) (by omega) (by omega))
      rw [iota_length] at hcall
      have hkd : 0 ≤ kk + (d.length : Int) := by omega
      clear hc hbw hb hd hints hMT hle hmm hkk HV
      go_wp2_with fail
      refine hcall.out.mono ?_
      rintro e w2 ⟨rfl, hb⟩
      have HB2 := Lib.hid (bnext HB.out hb)
      clear hb
      go_wp2_with fail
      exact ⟨⟨i + 1, by omega, by simp, by rw [HMT.out, ← HKK.out]; congr 1; omega, HB2.out⟩, by simp [intOf]; omega⟩
    · obtain rfl : i = n := by omega
      have HT : Hid (l.take i = l) := List.take_of_length_le (by rw [HL.out]; exact Nat.le_refl _)
      clear hb
      go_wp2_with fail
      go_ret
      exact ⟨ret_n (by rw [HT.out]), HB.out⟩
end Go.Proofs.YtfojllkkbdpfkaaGreat
