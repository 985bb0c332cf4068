/- The laws' helpers on []int: szIntS, toIntS, eqIntS. -/
import Derived.Test.YtpedpbbiamhgdaaRows
import Derived.Test.YtpedpbbiamhgdaaOwns
import Derived.BigQuiet
namespace Go.Proofs.Ytpedpbbiamhgdaa
open Go.RowKit
set_option linter.unusedVariables false

theorem drewN_below (w : World) (n : Nat) : Below w.heap.size w (w.drewN n) := ⟨rfl, rfl, rfl, Nat.le_refl _, fun _ _ => rfl⟩
theorem info_i64 : (Try.prog.info? 3).map (fun i => (i.zero, i.size, i.bytes)) = some (some (.int .i64 0), 1, 8) := by kernel_rfl

def szOf (left n : Int) : Int := if left - n < 0 then -1 else left - n
theorem szIntS_any (w : World) (v : Value) (l : List Int) (left : Int) (h : Ints w v l) (h0 : 0 ≤ left) (h1 : left ≤ 1048576) :
    Calls Try.prog 71 #[v, .int .i64 left] w fun e w' => e = .returned (.int .i64 (szOf left l.length)) ∧ w = w' := by
  obtain ⟨a, len, cap, rfl, hl, hm⟩ : ∃ a len cap, v = .slice a len cap ∧ l.length = len ∧ len ≤ maxLen := by
    have := h.len_le
    rcases h.2 with ⟨a, cap, rfl, _, rfl⟩ | ⟨b, off, len, cap, rfl, hl, _, _, _, _⟩
    · exact ⟨a, 0, cap, rfl, rfl, Nat.zero_le _⟩
    · exact ⟨_, len, cap, rfl, hl, by omega⟩
  rw [hl]
  clear h hl
  unfold maxLen at hm
  by_cases hlt : left - (len : Int) < 0
  · have H : Hid (szOf left len = -1) := by unfold Hid szOf; rw [if_pos hlt]
    go_enter Try.func71, Try.ntmps71
    go_wp2
    go_ret
    exact ⟨ret_n H.out.symm, rfl⟩
  · have H : Hid (szOf left len = left - len) := by unfold Hid szOf; rw [if_neg hlt]
    have q : decide (left - (len : Int) < 0) = false := decide_eq_false hlt
    go_enter Try.func71, Try.ntmps71
    go_wp2
    go_ret
    exact ⟨ret_n H.out.symm, rfl⟩

theorem dec_no {l l' : List Int} (j : Nat) (hj : j < l.length) (h : l.getD j 0 ≠ l'.getD j 0) : decide (l = l') = false := decide_eq_false (fun e => h (by rw [e]))
theorem dec_len {l l' : List Int} (h : l.length ≠ l'.length) : decide (l = l') = false := decide_eq_false (fun e => h (by rw [e]))
theorem dec_yes {l l' : List Int} (h : l.length = l'.length) (hj : ∀ j, j < l.length → l.getD j 0 = l'.getD j 0) : decide (l = l') = true := by
  refine decide_eq_true (List.ext_getElem h fun j h1 h2 => ?_)
  have := hj j h1
  simpa [List.getD, List.getElem?_eq_getElem h1, List.getElem?_eq_getElem h2] using this

set_option maxHeartbeats 1000000 in
theorem eqIntS_nil (w : World) (a a' : Option Addr) (cap cap' : Nat) :
    Calls Try.prog 75 #[.slice a 0 cap, .slice a' 0 cap'] w (GaveBool w true) := by
  go_enter Try.func75, Try.ntmps75
  go_wp2_with fail
  refine wp_loop_rounds 1 ?_
  rw [rounds_succ]
  go_wp2_with fail
  go_ret
  exact ⟨rfl, Below.refl _ _⟩
set_option maxHeartbeats 1000000 in
theorem eqIntS_len (w : World) (a a' : Option Addr) (len len' cap cap' : Nat) (hne : len ≠ len') (h1 : len ≤ maxLen) (h2 : len' ≤ maxLen) :
    Calls Try.prog 75 #[.slice a len cap, .slice a' len' cap'] w (GaveBool w false) := by
  unfold maxLen at h1 h2
  have q : ((len : Int) != len') = true := by simp; omega
  clear hne
  go_enter Try.func75, Try.ntmps75
  go_wp2_with fail
  go_ret
  exact ⟨rfl, Below.refl _ _⟩
set_option maxHeartbeats 1000000 in
theorem eqIntS_row (w : World) (b off len cap b' off' cap' : Nat) (l l' : List Int) (hl : l.length = len) (hl' : l'.length = len) (hm : len ≤ maxLen)
    (hc : ∀ j, j < len → w.cell? ⟨b, off + j, none⟩ = some (.int .i64 (l.getD j 0))) (hc' : ∀ j, j < len → w.cell? ⟨b', off' + j, none⟩ = some (.int .i64 (l'.getD j 0))) :
    Calls Try.prog 75 #[.slice (some ⟨b, off, none⟩) len cap, .slice (some ⟨b', off', none⟩) len cap'] w (GaveBool w (decide (l = l'))) := by
  unfold maxLen at hm
  have HC := Lib.hid hc
  have HC' := Lib.hid hc'
  have HL := Lib.hid hl
  have HL' := Lib.hid hl'
  clear hc hc' hl hl'
  go_enter Try.func75, Try.ntmps75
  go_wp2_with fail
  go_loopw [5] (fun iv wr => ∃ i : Nat, i ≤ len ∧ iv = .int .i64 i ∧ Below w.heap.size w wr ∧ Hid (∀ j, j < i → l.getD j 0 = l'.getD j 0)) (fun iv _ => len - (intOf iv).toNat)
  case atStart => exact ⟨0, by omega, rfl, Below.refl _ _, fun j hj => by omega⟩
  case round =>
    obtain ⟨i, hi, rfl, hb, HE⟩ := hrel
    have HB := Lib.hid hb
    by_cases hlt : i < len
    · have c1 := cellk hb (HC.out i hlt)
      have c2 := cellk hb (HC'.out i hlt)
      have hi0 : (0 : Int) ≤ i := by omega
      have hi1 : (i : Int) < len := by omega
      clear hb
      by_cases heq : l.getD i 0 = l'.getD i 0
      · have HQ := Lib.hid (fun j (e : j = i) => (by rw [e]; exact heq : l.getD j 0 = l'.getD j 0))
        rw [← heq] at c2
        clear heq
        generalize l.getD i 0 = x at *
        go_wp2_with fail
        go_quiet (fail)
        go_wp2_with fail
        refine ⟨⟨i + 1, by omega, by simp, bnext HB.out (drewN_below _ _), fun j hj => ?_⟩, by simp [intOf]; omega⟩
        rcases Nat.lt_or_ge j i with h | h
        · exact HE.out j h
        · exact HQ.out j (by omega)
      · have HQ := Lib.hid (dec_no i (by rw [HL.out]; exact hlt) heq)
        have q : (l.getD i 0 != l'.getD i 0) = true := bne_iff_ne.2 heq
        clear heq
        generalize l.getD i 0 = x at *
        generalize l'.getD i 0 = y at *
        go_wp2_with fail
        go_quiet (fail)
        go_wp2_with fail
        go_ret
        exact ⟨ret_b HQ.out.symm, bnext HB.out (drewN_below _ _)⟩
    · obtain rfl : i = len := by omega
      have HQ := Lib.hid (dec_yes (l := l) (l' := l') (by rw [HL.out, HL'.out]) (fun j hj => HE.out j (by rw [← HL.out]; exact hj)))
      clear hb
      go_wp2_with fail
      go_ret
      exact ⟨ret_b HQ.out.symm, HB.out⟩

theorem eqIntS_any (w : World) (v v' : Value) (l l' : List Int) (h : Ints w v l) (h' : Ints w v' l') :
    Calls Try.prog 75 #[v, v'] w (GaveBool w (decide (l = l'))) := by
  have k1 := h.len_le
  have k2 := h'.len_le
  by_cases hlen : l.length = l'.length
  · rcases h.2 with ⟨a, cap, rfl, _, rfl⟩ | ⟨b, off, len, cap, rfl, hl, h1, h2, hlt, hc⟩
    · rcases h'.2 with ⟨a', cap', rfl, _, rfl⟩ | ⟨b', off', len', cap', rfl, hl', h1', h2', hlt', hc'⟩
      · exact eqIntS_nil w a a' cap cap'
      · obtain rfl : l' = [] := List.eq_nil_of_length_eq_zero (by rw [← hlen]; rfl)
        obtain rfl : len' = 0 := hl'.symm
        exact eqIntS_nil w a _ cap cap'
    · rcases h'.2 with ⟨a', cap', rfl, _, rfl⟩ | ⟨b', off', len', cap', rfl, hl', h1', h2', hlt', hc'⟩
      · obtain rfl : l = [] := List.eq_nil_of_length_eq_zero (by rw [hlen]; rfl)
        obtain rfl : len = 0 := hl.symm
        exact eqIntS_nil w _ a' cap cap'
      · obtain rfl : len = len' := by omega
        exact eqIntS_row w b off len cap b' off' cap' l l' hl hl' (by omega) hc hc'
  · rw [dec_len hlen]
    have form : ∀ {v : Value} {l : List Int}, Ints w v l → ∃ a cap, v = .slice a l.length cap := by
      intro v l h
      rcases h.2 with ⟨a, cap, rfl, _, rfl⟩ | ⟨b, off, len, cap, rfl, rfl, _⟩
      · exact ⟨a, cap, rfl⟩
      · exact ⟨_, cap, rfl⟩
    obtain ⟨a, cap, rfl⟩ := form h
    obtain ⟨a', cap', rfl⟩ := form h'
    exact eqIntS_len w a a' _ _ cap cap' hlen k1 k2

set_option maxHeartbeats 1000000 in
theorem toIntS_nil (w : World) (a : Option Addr) (cap : Nat) :
    Calls Try.prog 73 #[.slice a 0 cap] w (GaveInts w []) := by
  go_enter Try.func73, Try.ntmps73
  go_wp2_with (at_make; refine wpList_make_built rfl (.tmp 6) (.tmp 6) 27 rfl .i64 3 0 8 Try.underlying27 info_i64 (by decide) (Below.refl _ w) .i64 .i64 0 rfl rfl (by omega) ?_)
  intro w1 hb1
  have HB := Lib.hid hb1
  clear hb1
  go_wp2_with fail
  refine wp_loop_rounds 1 ?_
  rw [rounds_succ]
  go_wp2_with fail
  go_ret
  obtain ⟨bs, ho, hn, hb⟩ := OInts.ofBuilt HB.out (fun x h => by simp at h)
  exact ⟨_, bs, rfl, ho, ⟨hn, hb⟩, HB.out.2⟩
set_option maxHeartbeats 1000000 in
theorem toIntS_row (w : World) (b off len cap : Nat) (l : List Int) (hl : l.length = len) (hm : len ≤ 1048576) (hi : ∀ x ∈ l, inI x) (hlt : b < w.heap.size)
    (hc : ∀ j, j < len → w.cell? ⟨b, off + j, none⟩ = some (.int .i64 (l.getD j 0))) :
    Calls Try.prog 73 #[.slice (some ⟨b, off, none⟩) len cap] w (GaveInts w l) := by
  have HC := Lib.hid hc
  have HL := Lib.hid hl
  have HI := Lib.hid hi
  clear hc hl hi
  go_enter Try.func73, Try.ntmps73
  go_wp2_with (at_make; refine wpList_make_built rfl (.tmp 6) (.tmp 6) 27 rfl .i64 3 0 8 Try.underlying27 info_i64 (by decide) (Below.refl _ w) .i64 .i64 len rfl rfl (by omega) ?_)
  intro w1 hb1
  have HB := Lib.hid hb1
  clear hb1
  go_wp2_with fail
  go_loopw [4] (fun iv wr => ∃ i : Nat, i ≤ len ∧ iv = .int .i64 i ∧ Built .i64 3 w wr (.slice (some ⟨w.heap.size, 0, none⟩) len len) (l.take i ++ List.replicate (len - i) 0)) (fun iv _ => len - (intOf iv).toNat)
  case atStart => exact ⟨0, by omega, rfl, by simpa using HB.out⟩
  case round =>
    obtain ⟨i, hi, rfl, hbl⟩ := hrel
    have HBL := Lib.hid hbl
    have hsz : (l.take i ++ List.replicate (len - i) (0 : Int)).length = len := by have := HL.out; simp; omega
    by_cases hil : i < len
    · have hst := Lib.hid (hbl.store hsz.symm i (l.getD i 0))
      have hcell := (hsz.symm ▸ hbl : Built .i64 3 w wr (.slice (some ⟨w.heap.size, 0, none⟩) (l.take i ++ List.replicate (len - i) (0 : Int)).length (l.take i ++ List.replicate (len - i) (0 : Int)).length) (l.take i ++ List.replicate (len - i) (0 : Int))).cell i (by rw [hsz]; omega)
      have hfr := hbl.frozen hsz.symm i
      have hset : (l.take i ++ List.replicate (len - i) (0 : Int)).set i (l.getD i 0) = l.take (i + 1) ++ List.replicate (len - (i + 1)) 0 := by
        have hL := HL.out
        have hi2 : i < l.length := by omega
        have hg : l.getD i 0 = l[i] := by simp [List.getD, List.getElem?_eq_getElem hi2]
        rw [List.set_append_right _ _ (by rw [List.length_take]; omega), List.length_take, Nat.min_eq_left (by omega), Nat.sub_self, hg, show len - i = (len - (i + 1)) + 1 from by omega, List.replicate_succ, List.set_cons_zero, List.take_succ_eq_append_getElem hi2, List.append_assoc]
        rfl
      have HSET := Lib.hid hset
      have c1 : wr.cell? ⟨b, off + i, none⟩ = some (.int .i64 (l.getD i 0)) := by rw [hbl.2.cell (p := ⟨b, off + i, none⟩) hlt]; exact HC.out i hil
      generalize (l.take i ++ List.replicate (len - i) (0 : Int)).getD i 0 = y0 at hcell
      have hi0 : (0 : Int) ≤ i := by omega
      have hi1 : (i : Int) < len := by omega
      clear hbl hsz hset
      generalize l.getD i 0 = x at *
      go_wp2_with fail
      refine ⟨⟨i + 1, by omega, by simp, ?_⟩, by simp [intOf]; omega⟩
      have h2 := hst.out
      rw [HSET.out] at h2
      exact h2
    · obtain rfl : i = len := by omega
      go_wp2_with fail
      go_ret
      have h2 := HBL.out
      have hL := HL.out
      rw [List.take_of_length_le (by omega)] at h2
      obtain ⟨bs, ho, hn, hb⟩ := OInts.ofBuilt (l := l) (by simpa using h2) HI.out
      exact ⟨_, bs, rfl, ho, ⟨hn, hb⟩, h2.2⟩

theorem toIntS_any (w : World) (v : Value) (l : List Int) (h : Ints w v l) (hl : l.length ≤ 1048576) :
    Calls Try.prog 73 #[v] w (GaveInts w l) := by
  rcases h.2 with ⟨a, cap, rfl, hc, rfl⟩ | ⟨b, off, len, cap, rfl, rfl, h1, h2, hlt, hc⟩
  · exact toIntS_nil w a cap
  · exact toIntS_row w b off _ cap l rfl hl h.1 hlt hc
end Go.Proofs.Ytpedpbbiamhgdaa
