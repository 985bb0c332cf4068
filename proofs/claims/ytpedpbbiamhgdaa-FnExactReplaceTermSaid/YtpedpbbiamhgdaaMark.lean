/- The laws' helpers that write numbers into a result and look for them again: markIntS, heldIntS, markAtom, heldAtom. -/
import Derived.Test.YtpedpbbiamhgdaaRd
namespace Go.Proofs.Ytpedpbbiamhgdaa
open Go.RowKit
set_option linter.unusedVariables false

/-- What a mark leaves. -/
def GaveMark (n : Int) (bs : List Nat) (R : World → Prop) (w : World) (e : Ending) (w' : World) : Prop := e = .returned (.int .i64 n) ∧ R w' ∧ OnlyAt bs w w'

set_option maxHeartbeats 1000000 in
theorem markIntS_nil (w : World) (a : Option Addr) (cap : Nat) (k : Int) (h0 : 0 ≤ k) (h1 : k ≤ 4503599627370496) :
    Calls Try.prog 77 #[.slice a 0 cap, .int .i64 k] w fun e w' => e = .returned (.int .i64 k) ∧ w = w' := by
  go_enter Try.func77, Try.ntmps77
  go_wp2_with fail
  refine wp_loop_rounds 1 ?_
  rw [rounds_succ]
  go_wp2_with fail
  go_ret
  exact ⟨rfl, rfl⟩

set_option maxHeartbeats 1000000 in
theorem markIntS_row (w : World) (b off n cap : Nat) (l : List Int) (k : Int) (hl : l.length = n) (hm : n ≤ 1048576) (h0 : 0 ≤ k) (h1 : k ≤ 4503599627370496)
    (hlt : b < w.heap.size) (hc : ∀ j, j < n → w.cell? ⟨b, off + j, none⟩ = some (.int .i64 (l.getD j 0))) (hf : ∀ j, j < n → w.frozen? ⟨b, off + j, none⟩ = false) :
    Calls Try.prog 77 #[.slice (some ⟨b, off, none⟩) n cap, .int .i64 k] w
      (GaveMark (k + n) [b] (fun w' => (∀ j, j < n → w'.cell? ⟨b, off + j, none⟩ = some (.int .i64 (k + j))) ∧ ∀ j, j < n → w'.frozen? ⟨b, off + j, none⟩ = false) w) := by
  have HC := Lib.hid hc
  have HF := Lib.hid hf
  clear hc hf hl
  go_enter Try.func77, Try.ntmps77
  go_wp2_with fail
  go_loopw [1, 5] (fun kv iv wr => ∃ i : Nat, i ≤ n ∧ iv = .int .i64 i ∧ kv = .int .i64 (k + i) ∧ OnlyAt [b] w wr ∧ Hid (∀ j, j < i → wr.cell? ⟨b, off + j, none⟩ = some (.int .i64 (k + j))) ∧ Hid (∀ j, i ≤ j → j < n → wr.cell? ⟨b, off + j, none⟩ = some (.int .i64 (l.getD j 0))) ∧ Hid (∀ j, j < n → wr.frozen? ⟨b, off + j, none⟩ = false)) (fun _ iv _ => n - (intOf iv).toNat)
  case atStart => exact ⟨0, by omega, rfl, by simp, OnlyAt.refl _ _, fun j hj => by omega, fun j _ hj => HC.out j hj, HF.out⟩
  case round =>
    obtain ⟨i, hi, rfl, rfl, ho, HD, HR, HFF⟩ := hrel
    have HO := Lib.hid ho
    clear ho
    by_cases hil : i < n
    · have c1 := HR.out i (Nat.le_refl _) hil
      have f1 := HFF.out i hil
      have HC1 := Lib.hid c1
      have hi0 : (0 : Int) ≤ i := by omega
      have hi1 : (i : Int) < n := by omega
      have hblk : Hid (b < wr.heap.size) := Nat.lt_of_lt_of_le hlt HO.out.size
      have HD2 := Lib.hid (fun j (hj : j < i) => HD.out j hj)
      generalize l.getD i 0 = x at *
      go_wp2_with fail
      refine ⟨⟨i + 1, by omega, by simp, by first | (simp; omega) | (congr 1; omega), HO.out.same (OnlyAt.setCell _ _ _ _), fun j hj => ?_, fun j hj hj2 => ?_, fun j hj => ?_⟩, by simp [intOf]; omega⟩
      · rcases Nat.lt_or_ge j i with h | h
        · rw [World.cell?_setCell_other _ _ _ _ (fun e => by have h5 := congrArg Addr.off e; dsimp only at h5; omega)]; exact HD.out j h
        · obtain rfl : j = i := by omega
          exact World.cell?_setCell_same _ _ _ HC1.out
      · rw [World.cell?_setCell_other _ _ _ _ (fun e => by have h5 := congrArg Addr.off e; dsimp only at h5; omega)]; exact HR.out j (by omega) hj2
      · rw [World.frozen?_setCell]; exact HFF.out j hj
    · obtain rfl : i = n := by omega
      go_wp2_with fail
      go_ret
      exact ⟨rfl, ⟨HD.out, HFF.out⟩, HO.out⟩

theorem markIntS_any (w : World) (v : Value) (l : List Int) (bs : List Nat) (k : Int) (h : OInts w v l bs) (hm : l.length ≤ 1048576) (h0 : 0 ≤ k) (h1 : k ≤ 4503599627370496) :
    Calls Try.prog 77 #[v, .int .i64 k] w (GaveMark (k + l.length) bs (fun w' => OInts w' v (iota k l.length) bs) w) := by
  obtain ⟨hI, hO⟩ := h
  rcases hO with ⟨a, c, rfl, rfl⟩ | ⟨b, off, n, c, rfl, hn, rfl, hf⟩
  · have hl0 : l = [] := by
      rcases hI.2 with ⟨_, _, _, _, rfl⟩ | ⟨b, off, len, cap, e, hl, _⟩
      · rfl
      · cases e; exact List.eq_nil_of_length_eq_zero hl
    subst hl0
    refine (markIntS_nil w a c k h0 h1).mono ?_
    rintro e w' ⟨rfl, rfl⟩
    exact ⟨ret_n (by simp), ⟨hI, .inl ⟨a, c, rfl, rfl⟩⟩, OnlyAt.refl _ _⟩
  · rcases hI.2 with ⟨a, cap, e, _, rfl⟩ | ⟨b', off', len, cap, e, hl, h2, h3, hlt, hc⟩
    · cases e; omega
    · cases e
      refine (markIntS_row w b off n c l k hl (by omega) h0 h1 hlt hc hf).mono ?_
      rintro e w' ⟨rfl, ⟨hc', hf'⟩, ho⟩
      subst hl
      refine ⟨rfl, ⟨⟨iota_inI _ _ h0 (by omega), .inr ⟨b, off, _, c, rfl, iota_length _ _, h2, h3, Nat.lt_of_lt_of_le hlt ho.size, fun j hj => ?_⟩⟩, .inr ⟨b, off, _, c, rfl, hn, rfl, hf'⟩⟩, ho⟩
      rw [iota_getD _ _ _ hj]; exact hc' j hj

set_option maxHeartbeats 1000000 in
theorem heldIntS_any (w : World) (v : Value) (l : List Int) (k : Int) (h : Ints w v l) (he : l = iota k l.length) (hm : l.length ≤ 1048576) (h0 : 0 ≤ k) (h1 : k ≤ 4503599627370496) :
    Calls Try.prog 79 #[v, .int .i64 k] w (GaveInt w (k + l.length)) := by
  obtain ⟨a, n, cap, rfl, hl, hn, hmm, hcell⟩ := h.cases
  have hg : ∀ j, j < n → l.getD j 0 = k + j := fun j hj => by rw [he, iota_getD _ _ _ (by omega)]
  rw [hl]
  rw [hl] at hm
  unfold maxLen at hmm
  have HC := Lib.hid hcell
  have HG := Lib.hid hg
  clear h hcell hl he hg
  go_enter Try.func79, Try.ntmps79
  go_wp2_with fail
  go_loopw [1, 5] (fun kv iv wr => ∃ i : Nat, i ≤ n ∧ iv = .int .i64 i ∧ kv = .int .i64 (k + i) ∧ wr = w) (fun _ iv _ => n - (intOf iv).toNat)
  case atStart => exact ⟨0, by omega, rfl, by simp, rfl⟩
  case round =>
    obtain ⟨i, hi, rfl, rfl, rfl⟩ := hrel
    by_cases hlt : i < n
    · obtain ⟨b, off, rfl, hbw, hc⟩ := HC.out (by omega)
      have c1 := hc i hlt
      rw [HG.out i hlt] at c1
      clear hc hbw
      have hi0 : (0 : Int) ≤ i := by omega
      have hi1 : (i : Int) < n := by omega
      go_wp2_with fail
      exact ⟨⟨i + 1, by omega, by simp, by first | (simp; omega) | (congr 1; omega), by trivial⟩, by simp [intOf]; omega⟩
    · obtain rfl : i = n := by omega
      go_wp2_with fail
      go_ret
      exact ⟨rfl, Below.refl _ _⟩

theorem OInts.len_le {w : World} {v : Value} {l : List Int} {bs : List Nat} (h : OInts w v l bs) : l.length ≤ maxLen := h.1.len_le

def mIntS (d : List Int) : Nat := d.length
def mkIntS (k : Int) (d : List Int) : List Int := iota k d.length
theorem markIntSR (w : World) (v : Value) (d : List Int) (bs : List Nat) (k : Int) (h : ROIntS w v d bs) (hnd : bs.Nodup) (hm : mIntS d ≤ 1048576) (h0 : 0 ≤ k) (h1 : k ≤ 4503599627370496) :
    Calls Try.prog 77 #[v, .int .i64 k] w (GaveMark (k + mIntS d) bs (fun w' => ROIntS w' v (mkIntS k d) bs) w) := by
  obtain ⟨a, n, c, rfl, h⟩ := h
  exact (markIntS_any w _ d bs k h hm h0 h1).mono fun e w' ⟨he, hr, ho⟩ => ⟨he, ⟨a, n, c, rfl, hr⟩, ho⟩
theorem heldIntSR (w : World) (v : Value) (d : List Int) (k : Int) (h : RdIntS w v (mkIntS k d)) (hm : mIntS d ≤ 1048576) (h0 : 0 ≤ k) (h1 : k ≤ 4503599627370496) :
    Calls Try.prog 79 #[v, .int .i64 k] w (GaveInt w (k + mIntS d)) := by
  obtain ⟨a, n, c, rfl, h⟩ := h
  have := heldIntS_any w _ (mkIntS k d) k h (by unfold mkIntS; rw [iota_length]) (by unfold mkIntS; rw [iota_length]; exact hm) h0 h1
  unfold mkIntS at this; rwa [iota_length] at this

def mAtom (d : Int × List Int) : Nat := d.2.length
def mkAtom (k : Int) (d : Int × List Int) : Int × List Int := (d.1, iota k d.2.length)
theorem mIntS_le {d : List Int} (h : sizeIntS d ≤ 1048576) : mIntS d ≤ 1048576 := h
theorem mAtom_le {d : Int × List Int} (h : sizeAtom d ≤ 1048576) : mAtom d ≤ 1048576 := h
theorem RdIntS.len_n {w : World} {a : Option Addr} {n c : Nat} {d : List Int} (h : RdIntS w (.slice a n c) d) : sizeIntS d = n := by
  obtain ⟨a', n', c', e, h⟩ := h
  obtain ⟨x, y, e2⟩ := h.form
  cases e; cases e2; rfl
theorem RdIntS.len_le {w : World} {v : Value} {d : List Int} (h : RdIntS w v d) : sizeIntS d ≤ maxLen := by
  obtain ⟨a', n', c', e, h⟩ := h
  exact h.len_le

def mSchema (d : List Int) : Nat := d.length
def mkSchema (k : Int) (d : List Int) : List Int := iota k d.length
theorem mSchema_le {d : List Int} (h : sizeSchema d ≤ 1048576) : mSchema d ≤ 1048576 := h
end Go.Proofs.Ytpedpbbiamhgdaa
