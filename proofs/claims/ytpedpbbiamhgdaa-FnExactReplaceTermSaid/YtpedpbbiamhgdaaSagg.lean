/- The laws' helpers on Schema and Atom: sz, to, eq. -/
import Derived.Test.YtpedpbbiamhgdaaSlaw
namespace Go.Proofs.Ytpedpbbiamhgdaa
open Go.RowKit
set_option linter.unusedVariables false

theorem szAtom_any (w : World) (r : Int) (v : Value) (l : List Int) (left : Int) (h : Ints w v l) (h0 : 0 ≤ left) (h1 : left ≤ 1048576) :
    Calls Try.prog 88 #[.agg #[.int .i64 r, v], .int .i64 left] w (GaveInt w (szOf left l.length)) := by
  have hb : ∀ a, Below w.heap.size w (w.alloc a) := fun a => (Below.refl _ _).alloc (Nat.le_refl _) _
  have hs := Lib.hid (fun a => szIntS_any _ v l left (h.below (hb a)) h0 h1)
  have HB := Lib.hid hb
  have hv : (szOf left l.length < 0 ∧ szOf left l.length = -1) ∨ 0 ≤ szOf left l.length := by unfold szOf; split <;> omega
  generalize szOf left l.length = s at *
  clear h hb
  rcases hv with ⟨h2, rfl⟩ | h2
  all_goals
    go_enter Try.func88, Try.ntmps88
    go_wp2_with fail
    refine (hs.out _).mono ?_
    rintro e w1 ⟨rfl, rfl⟩
    go_wp2_with fail
    go_ret
    exact ⟨rfl, HB.out _⟩

theorem toAtom_any (w : World) (r : Int) (v : Value) (l : List Int) (h : Ints w v l) (hl : l.length ≤ 1048576) :
    Calls Try.prog 89 #[.agg #[.int .i64 r, v]] w (GaveO (fun w' v bs => ∃ a n c, v = .agg #[.int .i64 r, .slice a n c] ∧ OInts w' (.slice a n c) l bs) w) := by
  have ht := Lib.hid (fun w h => toIntS_any w v l h hl)
  have HI := Lib.hid h
  clear h
  go_enter Try.func89, Try.ntmps89
  go_wp2_with fail
  have hb0 : ∀ a b c, Below w.heap.size w (((w.alloc a).alloc b).alloc c) := fun a b c => (((Below.refl _ _).alloc (Nat.le_refl _) _).alloc (by simp) _).alloc (by simp; omega) _

  refine (ht.out _ (HI.out.below (hb0 _ _ _))).mono ?_
  rintro e w1 ⟨v', bs, rfl, hi, hn, hb⟩
  obtain ⟨a', n', c', rfl⟩ := hi.1.shape
  have HN := Lib.hid hn
  have HV := Lib.hid hi
  have HB := Lib.hid (bnext (hb0 _ _ _) hb)
  obtain ⟨hc, hf⟩ := bcell hb
  have hz := hb.size
  simp at hz
  clear hi hb0 hb hn
  go_wp2_with fail
  refine bodyPost_ret (v := .agg #[.int .i64 r, .slice a' n' c']) (by simp [results, Try.results89, go_sem, hc]) rfl ⟨_, bs, rfl, ⟨_, _, _, rfl, ?_⟩, ?_, ?_⟩
  · exact ((HV.out.setCell HN.out.lo _ _ _ (by simp)).setCell HN.out.lo _ _ _ (by simp)).setCell HN.out.lo _ _ _ (by simp)
  · exact HN.out.wide (by simp; omega) (by simp [World.setCell])
  · exact ((HB.out.setCell (by simp; omega) _).setCell (by simp) _).setCell (by simp) _

set_option maxHeartbeats 1000000 in
theorem eqAtom_any (w : World) (r r' : Int) (v v' : Value) (l l' : List Int) (h : Ints w v l) (h' : Ints w v' l') :
    Calls Try.prog 90 #[.agg #[.int .i64 r, v], .agg #[.int .i64 r', v']] w (GaveBool w (decide (r = r' ∧ l = l'))) := by
  have hb0 : ∀ a b, Below w.heap.size w ((w.alloc a).alloc b) := fun a b => ((Below.refl _ _).alloc (Nat.le_refl _) _).alloc (by simp) _
  have hE := Lib.hid (fun a b => eqIntS_any _ v v' l l' (h.below (hb0 a b)) (h'.below (hb0 a b)))
  have HB0 := Lib.hid hb0
  clear h h' hb0
  by_cases hr : r = r'
  · have hq : decide (r = r' ∧ l = l') = decide (l = l') := by simp [hr]
    rw [hq]
    subst hr
    clear hq
    cases hd : decide (l = l')
    all_goals
      rw [hd] at hE
      clear hd
      go_enter Try.func90, Try.ntmps90
      go_wp2_with fail
      refine (hE.out _ _).mono ?_
      rintro e w1 ⟨rfl, hb⟩
      have HB := Lib.hid (bnext (HB0.out _ _) hb)
      clear hb
      go_wp2_with fail
      go_ret
      exact ⟨rfl, HB.out⟩
  · have HQ : Hid (decide (r = r' ∧ l = l') = false) := decide_eq_false (fun h => hr h.1)
    have q : (r != r') = true := bne_iff_ne.2 hr
    clear hr
    go_enter Try.func90, Try.ntmps90
    go_wp2_with fail
    go_ret
    exact ⟨ret_b HQ.out.symm, HB0.out _ _⟩
end Go.Proofs.Ytpedpbbiamhgdaa
