/- Merged of Slaw, Sagg, Rd, Mark. -/
import Derived.Test.YtpedpbbiamhgdaaRows
import Derived.Test.YtpedpbbiamhgdaaBase
import Derived.BigQuiet
import Derived.Deep.RegionHeld3
import Derived.Deep.DeepCutAuto
/-! Slaw -/
namespace Go.Proofs.Ytpedpbbiamhgdaa
open Go.RowKit
set_option linter.unusedVariables false

theorem drewN_below (w : World) (n : Nat) : Below w.heap.size w (w.drewN n) := ⟨rfl, rfl, rfl, Nat.le_refl _, fun _ _ => rfl⟩
theorem info_i64 : (Try.prog.info? 3).map (fun i => (i.zero, i.size, i.bytes)) = some (some (.int .i64 0), 1, 8) := by kernel_rfl

def szOf (left n : Int) : Int := if left - n < 0 then -1 else left - n
theorem szIntS_any (w : World) (v : Value) (l : List Int) (left : Int) (h : Ints w v l) (h0 : 0 ≤ left) (h1 : left ≤ 1048576) :
    Calls Try.prog 71 #[v, .int .i64 left] w fun e w' => e = .returned (.int .i64 (szOf left l.length)) ∧ w = w' := by
  obtain ⟨a, len, cap, rfl, hl, hm⟩ : ∃ a len cap, v = .slice a len cap ∧ l.length = len ∧ len ≤ maxLen := by
    have := h.len_le
    rcases h.2 with ⟨a, cap, rfl, _, rfl⟩ | ⟨b, off, len, cap, rfl, hl, _, _, _, _⟩
    · exact ⟨a, 0, cap, rfl, rfl, Nat.zero_le _⟩
    · exact ⟨_, len, cap, rfl, hl, by omega⟩
  rw [hl]
  clear h hl
  unfold maxLen at hm
  by_cases hlt : left - (len : Int) < 0
  · have H : Hid (szOf left len = -1) := by unfold Hid szOf; rw [if_pos hlt]
    go_enter Try.func71, Try.ntmps71
    go_wp2
    go_ret
    exact ⟨ret_n H.out.symm, rfl⟩
  · have H : Hid (szOf left len = left - len) := by unfold Hid szOf; rw [if_neg hlt]
    have q : decide (left - (len : Int) < 0) = false := decide_eq_false hlt
    go_enter Try.func71, Try.ntmps71
    go_wp2
    go_ret
    exact ⟨ret_n H.out.symm, rfl⟩

theorem dec_no {l l' : List Int} (j : Nat) (hj : j < l.length) (h : l.getD j 0 ≠ l'.getD j 0) : decide (l = l') = false := decide_eq_false (fun e => h (by rw [e]))
theorem dec_len {l l' : List Int} (h : l.length ≠ l'.length) : decide (l = l') = false := decide_eq_false (fun e => h (by rw [e]))
theorem dec_yes {l l' : List Int} (h : l.length = l'.length) (hj : ∀ j, j < l.length → l.getD j 0 = l'.getD j 0) : decide (l = l') = true := by
  refine decide_eq_true (List.ext_getElem h fun j h1 h2 => ?_)
  have := hj j h1
  simpa [List.getD, List.getElem?_eq_getElem h1, List.getElem?_eq_getElem h2] using this

set_option maxHeartbeats 1000000 in
theorem eqIntS_nil (w : World) (a a' : Option Addr) (cap cap' : Nat) :
    Calls Try.prog 75 #[.slice a 0 cap, .slice a' 0 cap'] w (GaveBool w true) := by
  go_enter Try.func75, Try.ntmps75
  go_wp2_with fail
  refine wp_loop_rounds 1 ?_
  rw [rounds_succ]
  go_wp2_with fail
  go_ret
  exact ⟨rfl, Below.refl _ _⟩
set_option maxHeartbeats 1000000 in
theorem eqIntS_len (w : World) (a a' : Option Addr) (len len' cap cap' : Nat) (hne : len ≠ len') (h1 : len ≤ maxLen) (h2 : len' ≤ maxLen) :
    Calls Try.prog 75 #[.slice a len cap, .slice a' len' cap'] w (GaveBool w false) := by
  unfold maxLen at h1 h2
  have q : ((len : Int) != len') = true := by simp; omega
  clear hne
  go_enter Try.func75, Try.ntmps75
  go_wp2_with fail
  go_ret
  exact ⟨rfl, Below.refl _ _⟩
set_option maxHeartbeats 1000000 in
theorem eqIntS_row (w : World) (b off len cap b' off' cap' : Nat) (l l' : List Int) (hl : l.length = len) (hl' : l'.length = len) (hm : len ≤ maxLen)
    (hc : ∀ j, j < len → w.cell? ⟨b, off + j, none⟩ = some (.int .i64 (l.getD j 0))) (hc' : ∀ j, j < len → w.cell? ⟨b', off' + j, none⟩ = some (.int .i64 (l'.getD j 0))) :
    Calls Try.prog 75 #[.slice (some ⟨b, off, none⟩) len cap, .slice (some ⟨b', off', none⟩) len cap'] w (GaveBool w (decide (l = l'))) := by
  unfold maxLen at hm
  have HC := Lib.hid hc
  have HC' := Lib.hid hc'
  have HL := Lib.hid hl
  have HL' := Lib.hid hl'
  clear hc hc' hl hl'
  go_enter Try.func75, Try.ntmps75
  go_wp2_with fail
  go_loopw [5] (fun iv wr => ∃ i : Nat, i ≤ len ∧ iv = .int .i64 i ∧ Below w.heap.size w wr ∧ Hid (∀ j, j < i → l.getD j 0 = l'.getD j 0)) (fun iv _ => len - (intOf iv).toNat)
  case atStart => exact ⟨0, by omega, rfl, Below.refl _ _, fun j hj => by omega⟩
  case round =>
    obtain ⟨i, hi, rfl, hb, HE⟩ := hrel
    have HB := Lib.hid hb
    by_cases hlt : i < len
    · have c1 := cellk hb (HC.out i hlt)
      have c2 := cellk hb (HC'.out i hlt)
      have hi0 : (0 : Int) ≤ i := by omega
      have hi1 : (i : Int) < len := by omega
      clear hb
      by_cases heq : l.getD i 0 = l'.getD i 0
      · have HQ := Lib.hid (fun j (e : j = i) => (by rw [e]; exact heq : l.getD j 0 = l'.getD j 0))
        rw [← heq] at c2
        clear heq
        generalize l.getD i 0 = x at *
        go_wp2_with fail
        go_quiet (fail)
        go_wp2_with fail
        refine ⟨⟨i + 1, by omega, by simp, bnext HB.out (drewN_below _ _), fun j hj => ?_⟩, by simp [intOf]; omega⟩
        rcases Nat.lt_or_ge j i with h | h
        · exact HE.out j h
        · exact HQ.out j (by omega)
      · have HQ := Lib.hid (dec_no i (by rw [HL.out]; exact hlt) heq)
        have q : (l.getD i 0 != l'.getD i 0) = true := bne_iff_ne.2 heq
        clear heq
        generalize l.getD i 0 = x at *
        generalize l'.getD i 0 = y at *
        go_wp2_with fail
        go_quiet (fail)
        go_wp2_with fail
        go_ret
        exact ⟨ret_b HQ.out.symm, bnext HB.out (drewN_below _ _)⟩
    · obtain rfl : i = len := by omega
      have HQ := Lib.hid (dec_yes (l := l) (l' := l') (by rw [HL.out, HL'.out]) (fun j hj => HE.out j (by rw [← HL.out]; exact hj)))
      clear hb
      go_wp2_with fail
      go_ret
      exact ⟨ret_b HQ.out.symm, HB.out⟩

theorem eqIntS_any (w : World) (v v' : Value) (l l' : List Int) (h : Ints w v l) (h' : Ints w v' l') :
    Calls Try.prog 75 #[v, v'] w (GaveBool w (decide (l = l'))) := by
  have k1 := h.len_le
  have k2 := h'.len_le
  by_cases hlen : l.length = l'.length
  · rcases h.2 with ⟨a, cap, rfl, _, rfl⟩ | ⟨b, off, len, cap, rfl, hl, h1, h2, hlt, hc⟩
    · rcases h'.2 with ⟨a', cap', rfl, _, rfl⟩ | ⟨b', off', len', cap', rfl, hl', h1', h2', hlt', hc'⟩
      · exact eqIntS_nil w a a' cap cap'
      · obtain rfl : l' = [] := List.eq_nil_of_length_eq_zero (by rw [← hlen]; rfl)
        obtain rfl : len' = 0 := hl'.symm
        exact eqIntS_nil w a _ cap cap'
    · rcases h'.2 with ⟨a', cap', rfl, _, rfl⟩ | ⟨b', off', len', cap', rfl, hl', h1', h2', hlt', hc'⟩
      · obtain rfl : l = [] := List.eq_nil_of_length_eq_zero (by rw [hlen]; rfl)
        obtain rfl : len = 0 := hl.symm
        exact eqIntS_nil w _ a' cap cap'
      · obtain rfl : len = len' := by omega
        exact eqIntS_row w b off len cap b' off' cap' l l' hl hl' (by omega) hc hc'
  · rw [dec_len hlen]
    have form : ∀ {v : Value} {l : List Int}, Ints w v l → ∃ a cap, v = .slice a l.length cap := by
      intro v l h
      rcases h.2 with ⟨a, cap, rfl, _, rfl⟩ | ⟨b, off, len, cap, rfl, rfl, _⟩
      · exact ⟨a, cap, rfl⟩
      · exact ⟨_, cap, rfl⟩
    obtain ⟨a, cap, rfl⟩ := form h
    obtain ⟨a', cap', rfl⟩ := form h'
    exact eqIntS_len w a a' _ _ cap cap' hlen k1 k2

set_option maxHeartbeats 1000000 in
theorem toIntS_nil (w : World) (a : Option Addr) (cap : Nat) :
    Calls Try.prog 73 #[.slice a 0 cap] w (GaveInts w []) := by
  go_enter Try.func73, Try.ntmps73
  go_wp2_with (at_make; refine wpList_make_built rfl (.tmp 6) (.tmp 6) 27 rfl .i64 3 0 8 Try.underlying27 info_i64 (by decide) (Below.refl _ w) .i64 .i64 0 rfl rfl (by omega) ?_)
  intro w1 hb1
  have HB := Lib.hid hb1
  clear hb1
  go_wp2_with fail
  refine wp_loop_rounds 1 ?_
  rw [rounds_succ]
  go_wp2_with fail
  go_ret
  obtain ⟨bs, ho, hn, hb⟩ := OInts.ofBuilt HB.out (fun x h => by simp at h)
  exact ⟨_, bs, rfl, ho, ⟨hn, hb⟩, HB.out.2⟩
set_option maxHeartbeats 1000000 in
theorem toIntS_row (w : World) (b off len cap : Nat) (l : List Int) (hl : l.length = len) (hm : len ≤ 1048576) (hi : ∀ x ∈ l, inI x) (hlt : b < w.heap.size)
    (hc : ∀ j, j < len → w.cell? ⟨b, off + j, none⟩ = some (.int .i64 (l.getD j 0))) :
    Calls Try.prog 73 #[.slice (some ⟨b, off, none⟩) len cap] w (GaveInts w l) := by
  have HC := Lib.hid hc
  have HL := Lib.hid hl
  have HI := Lib.hid hi
  clear hc hl hi
  go_enter Try.func73, Try.ntmps73
  go_wp2_with (at_make; refine wpList_make_built rfl (.tmp 6) (.tmp 6) 27 rfl .i64 3 0 8 Try.underlying27 info_i64 (by decide) (Below.refl _ w) .i64 .i64 len rfl rfl (by omega) ?_)
  intro w1 hb1
  have HB := Lib.hid hb1
  clear hb1
  go_wp2_with fail
  go_loopw [4] (fun iv wr => ∃ i : Nat, i ≤ len ∧ iv = .int .i64 i ∧ Built .i64 3 w wr (.slice (some ⟨w.heap.size, 0, none⟩) len len) (l.take i ++ List.replicate (len - i) 0)) (fun iv _ => len - (intOf iv).toNat)
  case atStart => exact ⟨0, by omega, rfl, by simpa using HB.out⟩
  case round =>
    obtain ⟨i, hi, rfl, hbl⟩ := hrel
    have HBL := Lib.hid hbl
    have hsz : (l.take i ++ List.replicate (len - i) (0 : Int)).length = len := by have := HL.out; simp; omega
    by_cases hil : i < len
    · have hst := Lib.hid (hbl.store hsz.symm i (l.getD i 0))
      have hcell := (hsz.symm ▸ hbl : Built .i64 3 w wr (.slice (some ⟨w.heap.size, 0, none⟩) (l.take i ++ List.replicate (len - i) (0 : Int)).length (l.take i ++ List.replicate (len - i) (0 : Int)).length) (l.take i ++ List.replicate (len - i) (0 : Int))).cell i (by rw [hsz]; omega)
      have hfr := hbl.frozen hsz.symm i
      have hset : (l.take i ++ List.replicate (len - i) (0 : Int)).set i (l.getD i 0) = l.take (i + 1) ++ List.replicate (len - (i + 1)) 0 := by
        have hL := HL.out
        have hi2 : i < l.length := by omega
        have hg : l.getD i 0 = l[i] := by simp [List.getD, List.getElem?_eq_getElem hi2]
        rw [List.set_append_right _ _ (by rw [List.length_take]; omega), List.length_take, Nat.min_eq_left (by omega), Nat.sub_self, hg, show len - i = (len - (i + 1)) + 1 from by omega, List.replicate_succ, List.set_cons_zero, List.take_succ_eq_append_getElem hi2, List.append_assoc]
        rfl
      have HSET := Lib.hid hset
      have c1 : wr.cell? ⟨b, off + i, none⟩ = some (.int .i64 (l.getD i 0)) := by rw [hbl.2.cell (p := ⟨b, off + i, none⟩) hlt]; exact HC.out i hil
      generalize (l.take i ++ List.replicate (len - i) (0 : Int)).getD i 0 = y0 at hcell
      have hi0 : (0 : Int) ≤ i := by omega
      have hi1 : (i : Int) < len := by omega
      clear hbl hsz hset
      generalize l.getD i 0 = x at *
      go_wp2_with fail
      refine ⟨⟨i + 1, by omega, by simp, ?_⟩, by simp [intOf]; omega⟩
      have h2 := hst.out
      rw [HSET.out] at h2
      exact h2
    · obtain rfl : i = len := by omega
      go_wp2_with fail
      go_ret
      have h2 := HBL.out
      have hL := HL.out
      rw [List.take_of_length_le (by omega)] at h2
      obtain ⟨bs, ho, hn, hb⟩ := OInts.ofBuilt (l := l) (by simpa using h2) HI.out
      exact ⟨_, bs, rfl, ho, ⟨hn, hb⟩, h2.2⟩

theorem toIntS_any (w : World) (v : Value) (l : List Int) (h : Ints w v l) (hl : l.length ≤ 1048576) :
    Calls Try.prog 73 #[v] w (GaveInts w l) := by
  rcases h.2 with ⟨a, cap, rfl, hc, rfl⟩ | ⟨b, off, len, cap, rfl, rfl, h1, h2, hlt, hc⟩
  · exact toIntS_nil w a cap
  · exact toIntS_row w b off _ cap l rfl hl h.1 hlt hc
end Go.Proofs.Ytpedpbbiamhgdaa

/-! Sagg -/
namespace Go.Proofs.Ytpedpbbiamhgdaa
open Go.RowKit
set_option linter.unusedVariables false

theorem szAtom_any (w : World) (r : Int) (v : Value) (l : List Int) (left : Int) (h : Ints w v l) (h0 : 0 ≤ left) (h1 : left ≤ 1048576) :
    Calls Try.prog 88 #[.agg #[.int .i64 r, v], .int .i64 left] w (GaveInt w (szOf left l.length)) := by
  have hb : ∀ a, Below w.heap.size w (w.alloc a) := fun a => (Below.refl _ _).alloc (Nat.le_refl _) _
  have hs := Lib.hid (fun a => szIntS_any _ v l left (h.below (hb a)) h0 h1)
  have HB := Lib.hid hb
  have hv : (szOf left l.length < 0 ∧ szOf left l.length = -1) ∨ 0 ≤ szOf left l.length := by unfold szOf; split <;> omega
  generalize szOf left l.length = s at *
  clear h hb
  rcases hv with ⟨h2, rfl⟩ | h2
  all_goals
    go_enter Try.func88, Try.ntmps88
    go_wp2_with fail
    refine (hs.out _).mono ?_
    rintro e w1 ⟨rfl, rfl⟩
    go_wp2_with fail
    go_ret
    exact ⟨rfl, HB.out _⟩

theorem toAtom_any (w : World) (r : Int) (v : Value) (l : List Int) (h : Ints w v l) (hl : l.length ≤ 1048576) :
    Calls Try.prog 89 #[.agg #[.int .i64 r, v]] w (GaveO (fun w' v bs => ∃ a n c, v = .agg #[.int .i64 r, .slice a n c] ∧ OInts w' (.slice a n c) l bs) w) := by
  have ht := Lib.hid (fun w h => toIntS_any w v l h hl)
  have HI := Lib.hid h
  clear h
  go_enter Try.func89, Try.ntmps89
  go_wp2_with fail
  have hb0 : ∀ a b c, Below w.heap.size w (((w.alloc a).alloc b).alloc c) := fun a b c => (((Below.refl _ _).alloc (Nat.le_refl _) _).alloc (by simp) _).alloc (by simp; omega) _

  refine (ht.out _ (HI.out.below (hb0 _ _ _))).mono ?_
  rintro e w1 ⟨v', bs, rfl, hi, hn, hb⟩
  obtain ⟨a', n', c', rfl⟩ := hi.1.shape
  have HN := Lib.hid hn
  have HV := Lib.hid hi
  have HB := Lib.hid (bnext (hb0 _ _ _) hb)
  obtain ⟨hc, hf⟩ := bcell hb
  have hz := hb.size
  simp at hz
  clear hi hb0 hb hn
  go_wp2_with fail
  refine bodyPost_ret (v := .agg #[.int .i64 r, .slice a' n' c']) (by simp [results, Try.results89, go_sem, hc]) rfl ⟨_, bs, rfl, ⟨_, _, _, rfl, ?_⟩, ?_, ?_⟩
  · exact ((HV.out.setCell HN.out.lo _ _ _ (by simp)).setCell HN.out.lo _ _ _ (by simp)).setCell HN.out.lo _ _ _ (by simp)
  · exact HN.out.wide (by simp; omega) (by simp [World.setCell])
  · exact ((HB.out.setCell (by simp; omega) _).setCell (by simp) _).setCell (by simp) _

set_option maxHeartbeats 1000000 in
theorem eqAtom_any (w : World) (r r' : Int) (v v' : Value) (l l' : List Int) (h : Ints w v l) (h' : Ints w v' l') :
    Calls Try.prog 90 #[.agg #[.int .i64 r, v], .agg #[.int .i64 r', v']] w (GaveBool w (decide (r = r' ∧ l = l'))) := by
  have hb0 : ∀ a b, Below w.heap.size w ((w.alloc a).alloc b) := fun a b => ((Below.refl _ _).alloc (Nat.le_refl _) _).alloc (by simp) _
  have hE := Lib.hid (fun a b => eqIntS_any _ v v' l l' (h.below (hb0 a b)) (h'.below (hb0 a b)))
  have HB0 := Lib.hid hb0
  clear h h' hb0
  by_cases hr : r = r'
  · have hq : decide (r = r' ∧ l = l') = decide (l = l') := by simp [hr]
    rw [hq]
    subst hr
    clear hq
    cases hd : decide (l = l')
    all_goals
      rw [hd] at hE
      clear hd
      go_enter Try.func90, Try.ntmps90
      go_wp2_with fail
      refine (hE.out _ _).mono ?_
      rintro e w1 ⟨rfl, hb⟩
      have HB := Lib.hid (bnext (HB0.out _ _) hb)
      clear hb
      go_wp2_with fail
      go_ret
      exact ⟨rfl, HB.out⟩
  · have HQ : Hid (decide (r = r' ∧ l = l') = false) := decide_eq_false (fun h => hr h.1)
    have q : (r != r') = true := bne_iff_ne.2 hr
    clear hr
    go_enter Try.func90, Try.ntmps90
    go_wp2_with fail
    go_ret
    exact ⟨ret_b HQ.out.symm, HB0.out _ _⟩
end Go.Proofs.Ytpedpbbiamhgdaa

/-! Rd -/
namespace Go.Proofs.Ytpedpbbiamhgdaa
open Go.RowKit
set_option linter.unusedVariables false

theorem szOf_ok {a b : Int} (h : 0 ≤ a - b) : szOf a b = a - b := by unfold szOf; rw [if_neg (by omega)]
theorem szOf_no {a b : Int} (h : a < b) : szOf a b = -1 := by unfold szOf; rw [if_pos (by omega)]
def RdSchema (w : World) (v : Value) (d : List Int) : Prop := ∃ a n c, v = .agg #[.slice a n c] ∧ Ints w (.slice a n c) d
theorem RdSchema.below {w w' : World} {v : Value} {d : List Int} (h : RdSchema w v d) (hb : Below w.heap.size w w') : RdSchema w' v d := by
  obtain ⟨a, n, c, rfl, h⟩ := h; exact ⟨a, n, c, rfl, h.below hb⟩
def sizeSchema (d : List Int) : Nat := d.length
def RdAtom (w : World) (v : Value) (d : Int × List Int) : Prop := ∃ a n c, v = .agg #[.int .i64 d.1, .slice a n c] ∧ inI d.1 ∧ Ints w (.slice a n c) d.2
theorem RdAtom.below {w w' : World} {v : Value} {d : Int × List Int} (h : RdAtom w v d) (hb : Below w.heap.size w w') : RdAtom w' v d := by
  obtain ⟨a, n, c, rfl, hi, h⟩ := h; exact ⟨a, n, c, rfl, hi, h.below hb⟩
def sizeAtom (d : Int × List Int) : Nat := d.2.length
theorem szAtomR (w : World) (v : Value) (d : Int × List Int) (left : Int) (h : RdAtom w v d) (h0 : 0 ≤ left) (h1 : left ≤ 1048576) :
    Calls Try.prog 88 #[v, .int .i64 left] w (GaveInt w (szOf left (sizeAtom d))) := by
  obtain ⟨a, n, c, rfl, _, h⟩ := h; exact szAtom_any w _ _ d.2 left h h0 h1
theorem toAtomR (w : World) (v : Value) (d : Int × List Int) (h : RdAtom w v d) (hl : sizeAtom d ≤ 1048576) :
    Calls Try.prog 89 #[v] w (GaveD (fun w' v => RdAtom w' v d) w) := by
  obtain ⟨a, n, c, rfl, hi, h⟩ := h
  refine (toAtom_any w _ _ d.2 h hl).mono ?_
  rintro e w' ⟨v, bs, rfl, ⟨a', n', c', rfl, hv⟩, _, hb⟩
  exact ⟨_, rfl, ⟨_, _, _, rfl, hi, hv.1⟩, hb⟩
theorem eqAtomR (w : World) (v v' : Value) (d : Int × List Int) (h : RdAtom w v d) (h' : RdAtom w v' d) :
    Calls Try.prog 90 #[v, v'] w (GaveBool w true) := by
  obtain ⟨a, n, c, rfl, _, h⟩ := h
  obtain ⟨a', n', c', rfl, _, h'⟩ := h'
  have := eqAtom_any w d.1 d.1 _ _ d.2 d.2 h h'
  rwa [decide_eq_true ⟨rfl, rfl⟩] at this

/-- A slice of int. -/
def RdIntS (w : World) (v : Value) (d : List Int) : Prop := ∃ a n c, v = .slice a n c ∧ Ints w (.slice a n c) d
theorem RdIntS.below {w w' : World} {v : Value} {d : List Int} (h : RdIntS w v d) (hb : Below w.heap.size w w') : RdIntS w' v d := by
  obtain ⟨a, n, c, rfl, h⟩ := h; exact ⟨a, n, c, rfl, h.below hb⟩
def sizeIntS (d : List Int) : Nat := d.length
def ROIntS (w : World) (v : Value) (d : List Int) (bs : List Nat) : Prop := ∃ a n c, v = .slice a n c ∧ OInts w (.slice a n c) d bs
theorem ROIntS.rd {w : World} {v : Value} {d : List Int} {bs : List Nat} (h : ROIntS w v d bs) : RdIntS w v d := by
  obtain ⟨a, n, c, rfl, h⟩ := h; exact ⟨a, n, c, rfl, h.1⟩
theorem ROIntS.below {w w' : World} {v : Value} {d : List Int} {bs : List Nat} (h : ROIntS w v d bs) (hb : Below w.heap.size w w') : ROIntS w' v d bs := by
  obtain ⟨a, n, c, rfl, h⟩ := h; exact ⟨a, n, c, rfl, h.below hb⟩
theorem ROIntS.onlyAt {w w' : World} {v : Value} {d : List Int} {bs bs' : List Nat} (h : ROIntS w v d bs) (k : OnlyAt bs' w w') (hn : ∀ b ∈ bs, b ∉ bs') : ROIntS w' v d bs := by
  obtain ⟨a, n, c, rfl, h⟩ := h; exact ⟨a, n, c, rfl, h.onlyAt k hn⟩
theorem OInts.roIntS {w : World} {v : Value} {d : List Int} {bs : List Nat} (h : OInts w v d bs) : ROIntS w v d bs := by
  obtain ⟨a, n, c, rfl⟩ := h.1.shape; exact ⟨a, n, c, rfl, h⟩
theorem toIntSO (w : World) (v : Value) (d : List Int) (h : RdIntS w v d) (hl : sizeIntS d ≤ 1048576) :
    Calls Try.prog 73 #[v] w (GaveO (fun w' v bs => ROIntS w' v d bs) w) := by
  obtain ⟨a, n, c, rfl, h⟩ := h
  refine (toIntS_any w _ d h hl).mono ?_
  rintro e w' ⟨v, bs, rfl, hi, hf, hb⟩
  exact ⟨_, bs, rfl, hi.roIntS, hf, hb⟩
theorem toIntSR (w : World) (v : Value) (d : List Int) (h : RdIntS w v d) (hl : sizeIntS d ≤ 1048576) :
    Calls Try.prog 73 #[v] w (GaveD (fun w' v => RdIntS w' v d) w) :=
  (toIntSO w v d h hl).mono fun e w' ⟨v, bs, he, ⟨a, n, c, hv, ho⟩, _, hb⟩ => ⟨v, he, ⟨a, n, c, hv, ho.1⟩, hb⟩
theorem eqIntSR (w : World) (v v' : Value) (d : List Int) (h : RdIntS w v d) (h' : RdIntS w v' d) :
    Calls Try.prog 75 #[v, v'] w (GaveBool w true) := by
  obtain ⟨a, n, c, rfl, h⟩ := h
  obtain ⟨a', n', c', rfl, h'⟩ := h'
  have := eqIntS_any w _ _ d d h h'
  rwa [decide_eq_true rfl] at this

def ROSchema (w : World) (v : Value) (d : List Int) (bs : List Nat) : Prop := ∃ a n c, v = .agg #[.slice a n c] ∧ OInts w (.slice a n c) d bs
theorem ROSchema.rd {w : World} {v : Value} {d : List Int} {bs : List Nat} (h : ROSchema w v d bs) : RdSchema w v d := by
  obtain ⟨a, n, c, rfl, h⟩ := h; exact ⟨a, n, c, rfl, h.1⟩
theorem ROSchema.below {w w' : World} {v : Value} {d : List Int} {bs : List Nat} (h : ROSchema w v d bs) (hb : Below w.heap.size w w') : ROSchema w' v d bs := by
  obtain ⟨a, n, c, rfl, h⟩ := h; exact ⟨a, n, c, rfl, h.below hb⟩
theorem ROSchema.onlyAt {w w' : World} {v : Value} {d : List Int} {bs bs' : List Nat} (h : ROSchema w v d bs) (k : OnlyAt bs' w w') (hn : ∀ b ∈ bs, b ∉ bs') : ROSchema w' v d bs := by
  obtain ⟨a, n, c, rfl, h⟩ := h; exact ⟨a, n, c, rfl, h.onlyAt k hn⟩
/-- An atom that a call has made. -/
def ROAtom (w : World) (v : Value) (d : Int × List Int) (bs : List Nat) : Prop := ∃ a n c, v = .agg #[.int .i64 d.1, .slice a n c] ∧ inI d.1 ∧ OInts w (.slice a n c) d.2 bs
theorem ROAtom.rd {w : World} {v : Value} {d : Int × List Int} {bs : List Nat} (h : ROAtom w v d bs) : RdAtom w v d := by
  obtain ⟨a, n, c, rfl, hi, h⟩ := h; exact ⟨a, n, c, rfl, hi, h.1⟩
theorem ROAtom.below {w w' : World} {v : Value} {d : Int × List Int} {bs : List Nat} (h : ROAtom w v d bs) (hb : Below w.heap.size w w') : ROAtom w' v d bs := by
  obtain ⟨a, n, c, rfl, hi, h⟩ := h; exact ⟨a, n, c, rfl, hi, h.below hb⟩
theorem ROAtom.onlyAt {w w' : World} {v : Value} {d : Int × List Int} {bs bs' : List Nat} (h : ROAtom w v d bs) (k : OnlyAt bs' w w') (hn : ∀ b ∈ bs, b ∉ bs') : ROAtom w' v d bs := by
  obtain ⟨a, n, c, rfl, hi, h⟩ := h; exact ⟨a, n, c, rfl, hi, h.onlyAt k hn⟩
theorem toAtomO (w : World) (v : Value) (d : Int × List Int) (h : RdAtom w v d) (hl : sizeAtom d ≤ 1048576) :
    Calls Try.prog 89 #[v] w (GaveO (fun w' v bs => ROAtom w' v d bs) w) := by
  obtain ⟨a, n, c, rfl, hi, h⟩ := h
  refine (toAtom_any w _ _ d.2 h hl).mono ?_
  rintro e w' ⟨v, bs, rfl, ⟨a', n', c', rfl, hv⟩, hf, hb⟩
  exact ⟨_, bs, rfl, ⟨_, _, _, rfl, hi, hv⟩, hf, hb⟩
end Go.Proofs.Ytpedpbbiamhgdaa

/-! Mark -/
namespace Go.Proofs.Ytpedpbbiamhgdaa
open Go.RowKit
set_option linter.unusedVariables false

/-- What a mark leaves. -/
def GaveMark (n : Int) (bs : List Nat) (R : World → Prop) (w : World) (e : Ending) (w' : World) : Prop := e = .returned (.int .i64 n) ∧ R w' ∧ OnlyAt bs w w'

set_option maxHeartbeats 1000000 in
theorem markIntS_nil (w : World) (a : Option Addr) (cap : Nat) (k : Int) (h0 : 0 ≤ k) (h1 : k ≤ 4503599627370496) :
    Calls Try.prog 77 #[.slice a 0 cap, .int .i64 k] w fun e w' => e = .returned (.int .i64 k) ∧ w = w' := by
  go_enter Try.func77, Try.ntmps77
  go_wp2_with fail
  refine wp_loop_rounds 1 ?_
  rw [rounds_succ]
  go_wp2_with fail
  go_ret
  exact ⟨rfl, rfl⟩

set_option maxHeartbeats 1000000 in
theorem markIntS_row (w : World) (b off n cap : Nat) (l : List Int) (k : Int) (hl : l.length = n) (hm : n ≤ 1048576) (h0 : 0 ≤ k) (h1 : k ≤ 4503599627370496)
    (hlt : b < w.heap.size) (hc : ∀ j, j < n → w.cell? ⟨b, off + j, none⟩ = some (.int .i64 (l.getD j 0))) (hf : ∀ j, j < n → w.frozen? ⟨b, off + j, none⟩ = false) :
    Calls Try.prog 77 #[.slice (some ⟨b, off, none⟩) n cap, .int .i64 k] w
      (GaveMark (k + n) [b] (fun w' => (∀ j, j < n → w'.cell? ⟨b, off + j, none⟩ = some (.int .i64 (k + j))) ∧ ∀ j, j < n → w'.frozen? ⟨b, off + j, none⟩ = false) w) := by
  have HC := Lib.hid hc
  have HF := Lib.hid hf
  clear hc hf hl
  go_enter Try.func77, Try.ntmps77
  go_wp2_with fail
  go_loopw [1, 5] (fun kv iv wr => ∃ i : Nat, i ≤ n ∧ iv = .int .i64 i ∧ kv = .int .i64 (k + i) ∧ OnlyAt [b] w wr ∧ Hid (∀ j, j < i → wr.cell? ⟨b, off + j, none⟩ = some (.int .i64 (k + j))) ∧ Hid (∀ j, i ≤ j → j < n → wr.cell? ⟨b, off + j, none⟩ = some (.int .i64 (l.getD j 0))) ∧ Hid (∀ j, j < n → wr.frozen? ⟨b, off + j, none⟩ = false)) (fun _ iv _ => n - (intOf iv).toNat)
  case atStart => exact ⟨0, by omega, rfl, by simp, OnlyAt.refl _ _, fun j hj => by omega, fun j _ hj => HC.out j hj, HF.out⟩
  case round =>
    obtain ⟨i, hi, rfl, rfl, ho, HD, HR, HFF⟩ := hrel
    have HO := Lib.hid ho
    clear ho
    by_cases hil : i < n
    · have c1 := HR.out i (Nat.le_refl _) hil
      have f1 := HFF.out i hil
      have HC1 := Lib.hid c1
      have hi0 : (0 : Int) ≤ i := by omega
      have hi1 : (i : Int) < n := by omega
      have hblk : Hid (b < wr.heap.size) := Nat.lt_of_lt_of_le hlt HO.out.size
      have HD2 := Lib.hid (fun j (hj : j < i) => HD.out j hj)
      generalize l.getD i 0 = x at *
      go_wp2_with fail
      refine ⟨⟨i + 1, by omega, by simp, by first | (simp; omega) | (congr 1; omega), HO.out.same (OnlyAt.setCell _ _ _ _), fun j hj => ?_, fun j hj hj2 => ?_, fun j hj => ?_⟩, by simp [intOf]; omega⟩
      · rcases Nat.lt_or_ge j i with h | h
        · rw [World.cell?_setCell_other _ _ _ _ (fun e => by have h5 := congrArg Addr.off e; dsimp only at h5; omega)]; exact HD.out j h
        · obtain rfl : j = i := by omega
          exact World.cell?_setCell_same _ _ _ HC1.out
      · rw [World.cell?_setCell_other _ _ _ _ (fun e => by have h5 := congrArg Addr.off e; dsimp only at h5; omega)]; exact HR.out j (by omega) hj2
      · rw [World.frozen?_setCell]; exact HFF.out j hj
    · obtain rfl : i = n := by omega
      go_wp2_with fail
      go_ret
      exact ⟨rfl, ⟨HD.out, HFF.out⟩, HO.out⟩

theorem markIntS_any (w : World) (v : Value) (l : List Int) (bs : List Nat) (k : Int) (h : OInts w v l bs) (hm : l.length ≤ 1048576) (h0 : 0 ≤ k) (h1 : k ≤ 4503599627370496) :
    Calls Try.prog 77 #[v, .int .i64 k] w (GaveMark (k + l.length) bs (fun w' => OInts w' v (iota k l.length) bs) w) := by
  obtain ⟨hI, hO⟩ := h
  rcases hO with ⟨a, c, rfl, rfl⟩ | ⟨b, off, n, c, rfl, hn, rfl, hf⟩
  · have hl0 : l = [] := by
      rcases hI.2 with ⟨_, _, _, _, rfl⟩ | ⟨b, off, len, cap, e, hl, _⟩
      · rfl
      · cases e; exact List.eq_nil_of_length_eq_zero hl
    subst hl0
    refine (markIntS_nil w a c k h0 h1).mono ?_
    rintro e w' ⟨rfl, rfl⟩
    exact ⟨ret_n (by simp), ⟨hI, .inl ⟨a, c, rfl, rfl⟩⟩, OnlyAt.refl _ _⟩
  · rcases hI.2 with ⟨a, cap, e, _, rfl⟩ | ⟨b', off', len, cap, e, hl, h2, h3, hlt, hc⟩
    · cases e; omega
    · cases e
      refine (markIntS_row w b off n c l k hl (by omega) h0 h1 hlt hc hf).mono ?_
      rintro e w' ⟨rfl, ⟨hc', hf'⟩, ho⟩
      subst hl
      refine ⟨rfl, ⟨⟨iota_inI _ _ h0 (by omega), .inr ⟨b, off, _, c, rfl, iota_length _ _, h2, h3, Nat.lt_of_lt_of_le hlt ho.size, fun j hj => ?_⟩⟩, .inr ⟨b, off, _, c, rfl, hn, rfl, hf'⟩⟩, ho⟩
      rw [iota_getD _ _ _ hj]; exact hc' j hj

set_option maxHeartbeats 1000000 in
theorem heldIntS_any (w : World) (v : Value) (l : List Int) (k : Int) (h : Ints w v l) (he : l = iota k l.length) (hm : l.length ≤ 1048576) (h0 : 0 ≤ k) (h1 : k ≤ 4503599627370496) :
    Calls Try.prog 79 #[v, .int .i64 k] w (GaveInt w (k + l.length)) := by
  obtain ⟨a, n, cap, rfl, hl, hn, hmm, hcell⟩ := h.cases
  have hg : ∀ j, j < n → l.getD j 0 = k + j := fun j hj => by rw [he, iota_getD _ _ _ (by omega)]
  rw [hl]
  rw [hl] at hm
  unfold maxLen at hmm
  have HC := Lib.hid hcell
  have HG := Lib.hid hg
  clear h hcell hl he hg
  go_enter Try.func79, Try.ntmps79
  go_wp2_with fail
  go_loopw [1, 5] (fun kv iv wr => ∃ i : Nat, i ≤ n ∧ iv = .int .i64 i ∧ kv = .int .i64 (k + i) ∧ wr = w) (fun _ iv _ => n - (intOf iv).toNat)
  case atStart => exact ⟨0, by omega, rfl, by simp, rfl⟩
  case round =>
    obtain ⟨i, hi, rfl, rfl, rfl⟩ := hrel
    by_cases hlt : i < n
    · obtain ⟨b, off, rfl, hbw, hc⟩ := HC.out (by omega)
      have c1 := hc i hlt
      rw [HG.out i hlt] at c1
      clear hc hbw
      have hi0 : (0 : Int) ≤ i := by omega
      have hi1 : (i : Int) < n := by omega
      go_wp2_with fail
      exact ⟨⟨i + 1, by omega, by simp, by first | (simp; omega) | (congr 1; omega), by trivial⟩, by simp [intOf]; omega⟩
    · obtain rfl : i = n := by omega
      go_wp2_with fail
      go_ret
      exact ⟨rfl, Below.refl _ _⟩

theorem OInts.len_le {w : World} {v : Value} {l : List Int} {bs : List Nat} (h : OInts w v l bs) : l.length ≤ maxLen := h.1.len_le

def mIntS (d : List Int) : Nat := d.length
def mkIntS (k : Int) (d : List Int) : List Int := iota k d.length
theorem markIntSR (w : World) (v : Value) (d : List Int) (bs : List Nat) (k : Int) (h : ROIntS w v d bs) (hnd : bs.Nodup) (hm : mIntS d ≤ 1048576) (h0 : 0 ≤ k) (h1 : k ≤ 4503599627370496) :
    Calls Try.prog 77 #[v, .int .i64 k] w (GaveMark (k + mIntS d) bs (fun w' => ROIntS w' v (mkIntS k d) bs) w) := by
  obtain ⟨a, n, c, rfl, h⟩ := h
  exact (markIntS_any w _ d bs k h hm h0 h1).mono fun e w' ⟨he, hr, ho⟩ => ⟨he, ⟨a, n, c, rfl, hr⟩, ho⟩
theorem heldIntSR (w : World) (v : Value) (d : List Int) (k : Int) (h : RdIntS w v (mkIntS k d)) (hm : mIntS d ≤ 1048576) (h0 : 0 ≤ k) (h1 : k ≤ 4503599627370496) :
    Calls Try.prog 79 #[v, .int .i64 k] w (GaveInt w (k + mIntS d)) := by
  obtain ⟨a, n, c, rfl, h⟩ := h
  have := heldIntS_any w _ (mkIntS k d) k h (by unfold mkIntS; rw [iota_length]) (by unfold mkIntS; rw [iota_length]; exact hm) h0 h1
  unfold mkIntS at this; rwa [iota_length] at this

def mAtom (d : Int × List Int) : Nat := d.2.length
def mkAtom (k : Int) (d : Int × List Int) : Int × List Int := (d.1, iota k d.2.length)
theorem mIntS_le {d : List Int} (h : sizeIntS d ≤ 1048576) : mIntS d ≤ 1048576 := h
theorem mAtom_le {d : Int × List Int} (h : sizeAtom d ≤ 1048576) : mAtom d ≤ 1048576 := h
theorem RdIntS.len_n {w : World} {a : Option Addr} {n c : Nat} {d : List Int} (h : RdIntS w (.slice a n c) d) : sizeIntS d = n := by
  obtain ⟨a', n', c', e, h⟩ := h
  obtain ⟨x, y, e2⟩ := h.form
  cases e; cases e2; rfl
theorem RdIntS.len_le {w : World} {v : Value} {d : List Int} (h : RdIntS w v d) : sizeIntS d ≤ maxLen := by
  obtain ⟨a', n', c', e, h⟩ := h
  exact h.len_le

def mSchema (d : List Int) : Nat := d.length
def mkSchema (k : Int) (d : List Int) : List Int := iota k d.length
theorem mSchema_le {d : List Int} (h : sizeSchema d ≤ 1048576) : mSchema d ≤ 1048576 := h
end Go.Proofs.Ytpedpbbiamhgdaa
