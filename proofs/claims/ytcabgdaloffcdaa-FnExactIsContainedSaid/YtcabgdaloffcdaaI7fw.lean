/- Contract of chapter 7's program: FindMapping. -/
import Derived.Test.YtcabgdaloffcdaaI7fm
import Derived.Test.YtcabgdaloffcdaaMark
namespace Go.Proofs.Ytcabgdaloffcdaa
open Go Go.Sort Go.RowKit
set_option linter.unusedVariables false

theorem sum_le3 : ∀ {l : List AtomD}, (∀ a ∈ l, a.2.length ≤ 3) → sumArgs l ≤ 3 * l.length
  | [], _ => by simp [sumArgs]
  | a :: l, h => by
    have h1 := sum_le3 (l := l) (fun x hx => h x (List.mem_cons_of_mem _ hx))
    have h2 := h a (List.mem_cons_self ..)
    have h3 : sumArgs (a :: l) = a.2.length + sumArgs l := by unfold sumArgs; simp
    rw [h3, List.length_cons]; omega
theorem terms_3 {l : List Int} (h : termsB l = true) : l.length ≤ 3 := by
  unfold termsB at h
  rw [Bool.and_eq_true] at h
  exact of_decide_eq_true h.2
theorem f7_sum {s : List Int} {d : QueryD} (h : fineB s d 4 = true) : d.1.length + sumArgs d.2 ≤ 1000000 := by
  unfold fineB at h
  simp only [Bool.and_eq_true] at h
  have h1 := terms_3 h.2.1
  have h2 : (1 : Int) ≤ d.2.length ∧ (d.2.length : Int) ≤ 4 := of_decide_eq_true h.2.2.1
  have h3 := sum_le3 (l := d.2) (fun a ha => by
    have h4 := List.all_eq_true.1 h.2.2.2.1 a ha
    unfold isAtomB at h4
    simp only [Bool.and_eq_true] at h4
    exact terms_3 h4.2)
  omega
theorem oints_nil (w : World) : OInts w (.slice none 0 0) [] [] := ⟨Ints.nil w, .inl ⟨none, 0, rfl, rfl⟩⟩
theorem fresh_nil (w w' : World) : Fresh w w' [] := ⟨List.Pairwise.nil, fun b hb => by cases hb⟩

set_option maxHeartbeats 2000000 in
theorem iFindMapping_any (w : World) (vs vf vt : Value) (s : List Int) (f t : QueryD) (hs : RdSchema w vs s) (hf : RdQuery w vf f) (ht : RdQuery w vt t) (hz : sizeAtomS f.2 ≤ 1048576) (hz2 : sizeAtomS t.2 ≤ 1048576) :
    Calls Try.prog 33 #[vs, vf, vt] w (fun e w' => ∃ yv bs, e = .returned (.tuple #[yv, .bool (fmN s f t).isSome]) ∧ OInts w' yv ((fmN s f t).getD []) bs ∧ Fresh w w' bs ∧ Below w.heap.size w w') := by
  have HI1 := Lib.hid (fun W hb => iIsQuery_any W vs vf s f (RdSchema.below hs hb) (RdQuery.below hf hb) hz)
  have HI2 := Lib.hid (fun W hb => iIsQuery_any W vs vt s t (RdSchema.below hs hb) (RdQuery.below ht hb) hz2)
  have HI3 := Lib.hid (fun W (hb : Below w.heap.size w W) (h : fineB s f 4 = true) (h' : fineB s t 4 = true) => iSearchM_any W vf vt f t (RdQuery.below hf hb) (RdQuery.below ht hb) (fun x hx => (f7_head h x hx).2) (fun a ha x hx => (f7_body h a ha x hx).2) (fun x hx => by have := (f7_head h' x hx).1; omega) (fun a ha x hx => by have := (f7_body h' a ha x hx).1; omega) (f7_sum h))
  obtain ⟨sa, sn, sc, rfl, hs⟩ := hs
  obtain ⟨fa, fn, fc, ga, gn, gc, rfl, hf1, hf2⟩ := hf
  obtain ⟨ta, tn, tc, ua, un, uc, rfl, ht1, ht2⟩ := ht
  have hb0 : ∀ a b c, Below w.heap.size w (((w.alloc a).alloc b).alloc c) := fun a b c => (((Below.refl _ _).alloc (Nat.le_refl _) _).alloc (by simp) _).alloc (by simp; omega) _
  have HB0 := Lib.hid hb0
  obtain ⟨p1, hp1⟩ : ∃ p, fineB s f 4 = p := ⟨_, rfl⟩
  obtain ⟨p2, hp2⟩ : ∃ p, fineB s t 4 = p := ⟨_, rfl⟩
  rw [hp1] at HI1 HI3
  rw [hp2] at HI2 HI3
  have HFN : Hid (fmN s f t = if (p1 && p2) = true then findN f t else none) := by unfold Hid fmN; rw [hp1, hp2]
  clear hs hf1 hf2 ht1 ht2 hz hz2 hb0 hp1 hp2
  go_enter Try.func33, Try.ntmps33
  go_wp2_with fail
  obtain ⟨W, hW⟩ : ∃ W, W = ((w.alloc (.cells #[.slice sa sn sc] 31)).alloc (.cells #[.slice fa fn fc, .slice ga gn gc] 35)).alloc (.cells #[.slice ta tn tc, .slice ua un uc] 35) := ⟨_, rfl⟩
  have HBW : Hid (Below w.heap.size w W) := by rw [hW]; exact HB0.out _ _ _
  have q0 : W.cell? ⟨w.heap.size, 0, none⟩ = some (.slice sa sn sc) := by rw [hW]; exact box1 _ _ _ _ _ _ _ rfl
  have q1 : W.cell? ⟨w.heap.size + 1, 0, none⟩ = some (.slice fa fn fc) := by rw [hW]; exact box2 _ _ _ _ _ _ _ rfl
  have q2 : W.cell? ⟨w.heap.size + 1, 1, none⟩ = some (.slice ga gn gc) := by rw [hW]; exact box2 _ _ _ _ _ _ _ rfl
  have q3 : W.cell? ⟨w.heap.size + 1 + 1, 0, none⟩ = some (.slice ta tn tc) := by rw [hW]; exact box3 _ _ _ _ _ _ _ rfl
  have q4 : W.cell? ⟨w.heap.size + 1 + 1, 1, none⟩ = some (.slice ua un uc) := by rw [hW]; exact box3 _ _ _ _ _ _ _ rfl
  rw [← hW]
  clear hW
  refine (HI1.out _ HBW.out).mono ?_
  rintro e w1 ⟨rfl, hb⟩
  replace q0 := cellk hb q0
  replace q1 := cellk hb q1
  replace q2 := cellk hb q2
  replace q3 := cellk hb q3
  replace q4 := cellk hb q4
  have HB1 := Lib.hid (bnext HBW.out hb)
  clear hb
  cases p1 with
  | false =>
    have HN : Hid (fmN s f t = none) := HFN.out
    go_wp2_with fail
    go_ret2
    exact ⟨.slice none 0 0, [], by rw [HN.out]; rfl, by rw [HN.out]; exact oints_nil w1, fresh_nil w w1, HB1.out⟩
  | true =>
    go_wp2_with fail
    refine (HI2.out _ HB1.out).mono ?_
    rintro e w2 ⟨rfl, hb⟩
    replace q0 := cellk hb q0
    replace q1 := cellk hb q1
    replace q2 := cellk hb q2
    replace q3 := cellk hb q3
    replace q4 := cellk hb q4
    have HB2 := Lib.hid (bnext HB1.out hb)
    clear hb
    cases p2 with
    | false =>
      have HN : Hid (fmN s f t = none) := HFN.out
      go_wp2_with fail
      go_ret2
      exact ⟨.slice none 0 0, [], by rw [HN.out]; rfl, by rw [HN.out]; exact oints_nil w2, fresh_nil w w2, HB2.out⟩
    | true =>
      have HN : Hid (fmN s f t = findN f t) := HFN.out
      go_wp2_with fail
      refine (HI3.out _ HB2.out (by first | exact rfl | trivial) (by first | exact rfl | trivial)).mono ?_
      rintro e w3 ⟨yv, bb, rfl, hfd, hb⟩
      have HB3 := Lib.hid (bnext HB2.out hb)
      have HFD := Lib.hid (hfd.wide HB2.out.size)
      clear hb hfd
      cases ho : findN f t with
      | none =>
        have hfd := HFD.out
        rw [ho] at hfd
        obtain ⟨rfl, rfl⟩ := hfd
        have HO : Hid (fmN s f t = none) := by unfold Hid; rw [HN.out, ho]
        clear ho
        go_wp2_with fail
        go_ret2
        exact ⟨.slice none 0 0, [], by rw [HO.out]; rfl, by rw [HO.out]; exact oints_nil w3, fresh_nil w w3, HB3.out⟩
      | some y =>
        have hfd := HFD.out
        rw [ho] at hfd
        obtain ⟨rfl, bs, hoi, hfr⟩ := hfd
        have HO : Hid (fmN s f t = some y) := by unfold Hid; rw [HN.out, ho]
        have HOI := Lib.hid hoi
        have HFR := Lib.hid hfr
        clear ho hoi hfr
        go_wp2_with fail
        go_ret2
        exact ⟨yv, bs, by rw [HO.out]; rfl, by rw [HO.out]; exact HOI.out, HFR.out, HB3.out⟩
theorem fmN_m (s : List Int) (f t : QueryD) : mIntS ((fmN s f t).getD []) ≤ 1048576 := by
  unfold mIntS
  cases h : fmN s f t with
  | none => simp
  | some y =>
    have h1 : findN f t = some y := by
      unfold fmN at h
      split at h
      · exact h
      · cases h
    have := findN_len h1
    simp [this]
end Go.Proofs.Ytcabgdaloffcdaa
