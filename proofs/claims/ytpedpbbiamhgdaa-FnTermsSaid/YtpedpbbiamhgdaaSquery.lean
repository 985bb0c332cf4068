/- The laws' helpers on Query: sz, to, eq, mark, held. -/
import Derived.Test.YtpedpbbiamhgdaaMatoms
namespace Go.Proofs.Ytpedpbbiamhgdaa
open Go.RowKit
set_option linter.unusedVariables false

abbrev QueryD := List Int × List AtomD
def RdQuery (w : World) (v : Value) (d : QueryD) : Prop := ∃ a n c a' n' c', v = .agg #[.slice a n c, .slice a' n' c'] ∧ Ints w (.slice a n c) d.1 ∧ RdSl 2 CsAtom w (.slice a' n' c') d.2
def ROQuery (w : World) (v : Value) (d : QueryD) (bs : List Nat) : Prop := ∃ a n c a' n' c', v = .agg #[.slice a n c, .slice a' n' c'] ∧ ∃ b1 b2, OInts w (.slice a n c) d.1 b1 ∧ ROSl 2 COAtom w (.slice a' n' c') d.2 b2 ∧ bs = b1 ++ b2
theorem RdQuery.below {w w' : World} {v : Value} {d : QueryD} (h : RdQuery w v d) (hb : Below w.heap.size w w') : RdQuery w' v d := by
  obtain ⟨a, n, c, a', n', c', rfl, h1, h2⟩ := h
  exact ⟨a, n, c, a', n', c', rfl, h1.below hb, RdSl.below h2 (fun _ _ h => h.below hb) hb⟩
theorem ROQuery.rd {w : World} {v : Value} {d : QueryD} {bs : List Nat} (h : ROQuery w v d bs) : RdQuery w v d := by
  obtain ⟨a, n, c, a', n', c', rfl, b1, b2, h1, h2, rfl⟩ := h
  exact ⟨a, n, c, a', n', c', rfl, h1.1, ROSl.rd h2 (fun _ _ _ h => h.rd)⟩
theorem ROQuery.below {w w' : World} {v : Value} {d : QueryD} {bs : List Nat} (h : ROQuery w v d bs) (hb : Below w.heap.size w w') : ROQuery w' v d bs := by
  obtain ⟨a, n, c, a', n', c', rfl, b1, b2, h1, h2, rfl⟩ := h
  exact ⟨a, n, c, a', n', c', rfl, b1, b2, h1.below hb, ROSl.below h2 hb (fun _ _ _ h => h.below hb), rfl⟩
theorem ROQuery.onlyAt {w w' : World} {v : Value} {d : QueryD} {bs bs' : List Nat} (h : ROQuery w v d bs) (k : OnlyAt bs' w w') (hn : ∀ b ∈ bs, b ∉ bs') : ROQuery w' v d bs := by
  obtain ⟨a, n, c, a', n', c', rfl, b1, b2, h1, h2, rfl⟩ := h
  exact ⟨a, n, c, a', n', c', rfl, b1, b2, h1.onlyAt k (fun x hx => hn x (by simp [hx])), ROSl.onlyAt h2 k (fun x hx => hn x (by simp [hx])) (fun _ _ _ hn h => h.onlyAt hn k), rfl⟩
def sizeQuery (d : QueryD) : Nat := d.1.length + sizeAtomS d.2

theorem szQueryR (w : World) (v : Value) (d : QueryD) (left : Int) (h : RdQuery w v d) (h0 : 0 ≤ left) (h1 : left ≤ 1048576) :
    Calls Try.prog 34 #[v, .int .i64 left] w (GaveInt w (szOf left (sizeQuery d))) := by
  obtain ⟨a, n, c, a', n', c', rfl, hi, ha⟩ := h
  have hb : ∀ o, Below w.heap.size w (w.alloc o) := fun o => (Below.refl _ _).alloc (Nat.le_refl _) _
  have hs := Lib.hid (fun o => szIntS_any _ (.slice a n c) d.1 left (hi.below (hb o)) h0 h1)
  have HB := Lib.hid hb
  by_cases h2 : left - (d.1.length : Int) < 0
  · have HQ : Hid (szOf left (sizeQuery d) = -1) := szOf_no (by unfold sizeQuery; omega)
    rw [szOf_no (by omega)] at hs
    clear hi ha hb h2
    go_enter Try.func34, Try.ntmps34
    go_wp2_with fail
    refine (hs.out _).mono ?_
    rintro e w1 ⟨rfl, rfl⟩
    go_wp2_with fail
    go_ret
    exact ⟨ret_n HQ.out.symm, HB.out _⟩
  · have hz := Lib.hid (fun o => szAtomSR _ (.slice a' n' c') d.2 (left - (d.1.length : Int)) ⟨_, _, _, rfl, RdSl.below ha (fun _ _ h => h.below (hb o)) (hb o)⟩ (by omega) (by omega))
    have HQ : Hid (szOf (left - (d.1.length : Int)) (sizeAtomS d.2) = szOf left (sizeQuery d)) := by
      unfold Hid szOf sizeQuery; split <;> split <;> omega
    rw [szOf_ok (by omega)] at hs
    have hp : 0 ≤ left - (d.1.length : Int) := by omega
    have hv : (szOf (left - (d.1.length : Int)) (sizeAtomS d.2) = -1) ∨ 0 ≤ szOf (left - (d.1.length : Int)) (sizeAtomS d.2) := by unfold szOf; split <;> omega
    rw [← HQ.out]
    clear HQ
    generalize szOf (left - (d.1.length : Int)) (sizeAtomS d.2) = s at *
    generalize left - (d.1.length : Int) = lf at *
    clear hi ha hb h2
    rcases hv with rfl | hv
    all_goals
      go_enter Try.func34, Try.ntmps34
      go_wp2_with fail
      refine (hs.out _).mono ?_
      rintro e w1 ⟨rfl, rfl⟩
      go_wp2_with fail
      refine (hz.out _).mono ?_
      rintro e w1 ⟨rfl, hb1⟩
      have HB1 := Lib.hid (bnext (HB.out _) hb1)
      clear hb1
      go_wp2_with fail
      go_ret
      exact ⟨rfl, HB1.out⟩

set_option maxHeartbeats 2000000 in
theorem toQueryO (w : World) (v : Value) (d : QueryD) (h : RdQuery w v d) (hl : sizeQuery d ≤ 1048576) :
    Calls Try.prog 35 #[v] w (GaveO (fun w' v bs => ROQuery w' v d bs) w) := by
  obtain ⟨a, n, c, a', n', c', rfl, hi, ha⟩ := h
  have ht := Lib.hid (fun w h => toIntS_any w (.slice a n c) d.1 h (by unfold sizeQuery at hl; omega))
  have hta := Lib.hid (fun w h => toAtomSO w (.slice a' n' c') d.2 h (by unfold sizeQuery at hl; omega))
  have HI := Lib.hid hi
  have HA : Hid (RdAtomS w (.slice a' n' c') d.2) := ⟨_, _, _, rfl, ha⟩
  clear hi ha hl
  go_enter Try.func35, Try.ntmps35
  go_wp2_with fail
  have hb0 : ∀ a b c, Below w.heap.size w (((w.alloc a).alloc b).alloc c) := fun a b c => (((Below.refl _ _).alloc (Nat.le_refl _) _).alloc (by simp) _).alloc (by simp; omega) _
  refine (ht.out _ (HI.out.below (hb0 _ _ _))).mono ?_
  rintro e w1 ⟨v1, bs1, rfl, ho1, hf1, hb1⟩
  obtain ⟨xa, xn, xc, rfl⟩ := ho1.1.shape
  have HO1 := Lib.hid ho1
  have HF1 := Lib.hid hf1
  have HB1 := Lib.hid (bnext (hb0 _ _ _) hb1)
  have kb0 := cellk hb1 (cellk (below_alloc _ _) (cellk (below_alloc _ _) (show (w.alloc (.cells #[.slice a n c, .slice a' n' c'] 54)).cell? ⟨w.heap.size, 0, none⟩ = some (.slice a n c) by simp)))
  have kb1 := cellk hb1 (cellk (below_alloc _ _) (cellk (below_alloc _ _) (show (w.alloc (.cells #[.slice a n c, .slice a' n' c'] 54)).cell? ⟨w.heap.size, 1, none⟩ = some (.slice a' n' c') by simp)))
  have kr0' := show ((w.alloc (.cells #[.slice a n c, .slice a' n' c'] 54)).alloc (.cells #[.slice none 0 0, .slice none 0 0] 30)).cell? ⟨w.heap.size + 1, 0, none⟩ = some (.slice none 0 0) by simp
  have kr1' := show ((w.alloc (.cells #[.slice a n c, .slice a' n' c'] 54)).alloc (.cells #[.slice none 0 0, .slice none 0 0] 30)).cell? ⟨w.heap.size + 1, 1, none⟩ = some (.slice none 0 0) by simp
  have kr0 := cellk hb1 (cellk (below_alloc _ _) kr0')
  have kr1 := cellk hb1 (cellk (below_alloc _ _) kr1')
  have fr0 := frok hb1 (cellk (below_alloc _ _) kr0') (frok (below_alloc _ _) kr0' (by simp))
  have fr1 := frok hb1 (cellk (below_alloc _ _) kr1') (frok (below_alloc _ _) kr1' (by simp))
  have kt0' := show (((w.alloc (.cells #[.slice a n c, .slice a' n' c'] 54)).alloc (.cells #[.slice none 0 0, .slice none 0 0] 30)).alloc (.cells #[.slice none 0 0, .slice none 0 0] 30)).cell? ⟨w.heap.size + 1 + 1, 0, none⟩ = some (.slice none 0 0) by rw [World.cell?_alloc_at _ _ _ _ (by simp)]; rfl
  have kt1' := show (((w.alloc (.cells #[.slice a n c, .slice a' n' c'] 54)).alloc (.cells #[.slice none 0 0, .slice none 0 0] 30)).alloc (.cells #[.slice none 0 0, .slice none 0 0] 30)).cell? ⟨w.heap.size + 1 + 1, 1, none⟩ = some (.slice none 0 0) by rw [World.cell?_alloc_at _ _ _ _ (by simp)]; rfl
  have kt0 := cellk hb1 kt0'
  have kt1 := cellk hb1 kt1'
  have ft0 := frok hb1 kt0' (by rw [World.frozen?_alloc_at _ _ _ _ (by simp)])
  have ft1 := frok hb1 kt1' (by rw [World.frozen?_alloc_at _ _ _ _ (by simp)])
  clear kr0' kr1' kt0' kt1'
  have hz1 := hb1.size
  simp at hz1
  clear hb1 hb0 ho1 hf1
  go_wp2_with fail
  have hne : ∀ {x y : Nat} {i j : Nat}, x ≠ y → (⟨x, i, none⟩ : Addr) ≠ ⟨y, j, none⟩ := fun h e => h (congrArg Addr.block e)
  have hneo : ∀ {x : Nat} {i j : Nat}, i ≠ j → (⟨x, i, none⟩ : Addr) ≠ ⟨x, j, none⟩ := fun h e => h (congrArg Addr.off e)
  obtain ⟨w2, hw2⟩ : ∃ x, x = w1.setCell ⟨w.heap.size + 1 + 1, 0, none⟩ (.slice xa xn xc) := ⟨_, rfl⟩
  rw [← hw2]
  have HB2 : Hid (Below w.heap.size w w2) := by rw [hw2]; exact HB1.out.setCell (by simp; omega) _
  have hs2 : w2.heap.size = w1.heap.size := by rw [hw2]; simp [World.setCell]
  have HO2 : Hid (OInts w2 (.slice xa xn xc) d.1 bs1) := by rw [hw2]; exact HO1.out.setCell HF1.out.lo _ _ _ (by simp)
  replace kr0 : w2.cell? ⟨w.heap.size + 1, 0, none⟩ = some (.slice none 0 0) := by rw [hw2, World.cell?_setCell_other _ _ _ _ (hne (by omega))]; exact kr0
  replace kr1 : w2.cell? ⟨w.heap.size + 1, 1, none⟩ = some (.slice none 0 0) := by rw [hw2, World.cell?_setCell_other _ _ _ _ (hne (by omega))]; exact kr1
  replace kt1 : w2.cell? ⟨w.heap.size + 1 + 1, 1, none⟩ = some (.slice none 0 0) := by rw [hw2, World.cell?_setCell_other _ _ _ _ (hneo (by omega))]; exact kt1
  replace kt0 : w2.cell? ⟨w.heap.size + 1 + 1, 0, none⟩ = some (.slice xa xn xc) := by rw [hw2]; exact World.cell?_setCell_same _ _ _ kt0
  replace fr0 : w2.frozen? ⟨w.heap.size + 1, 0, none⟩ = false := by rw [hw2, World.frozen?_setCell]; exact fr0
  replace fr1 : w2.frozen? ⟨w.heap.size + 1, 1, none⟩ = false := by rw [hw2, World.frozen?_setCell]; exact fr1
  replace ft1 : w2.frozen? ⟨w.heap.size + 1 + 1, 1, none⟩ = false := by rw [hw2, World.frozen?_setCell]; exact ft1
  have HS2 := Lib.hid hs2
  clear hw2 hs2 kb0 kb1 ft0
  refine (hta.out _ (HA.out.below HB2.out)).mono ?_
  rintro e w3 ⟨v3, bs3, rfl, ⟨ya, yn, yc, rfl, ho3⟩, hf3, hb3⟩
  have HB3 := Lib.hid (bnext HB2.out hb3)
  have HO3 := Lib.hid (HO2.out.below hb3)
  have HA3 := Lib.hid ho3
  have HF3 := Lib.hid hf3
  have hz3 := hb3.size
  have HZ3 := Lib.hid hz3
  replace fr0 := frok hb3 kr0 fr0
  replace fr1 := frok hb3 kr1 fr1
  replace ft1 := frok hb3 kt1 ft1
  replace kr0 := cellk hb3 kr0
  replace kr1 := cellk hb3 kr1
  replace kt0 := cellk hb3 kt0
  replace kt1 := cellk hb3 kt1
  clear hb3 ho3 hf3 hne hneo hz3
  go_wp2_with fail
  have l1 : ∀ x ∈ bs1, w.heap.size + 1 + 1 + 1 ≤ x := fun x hx => by have := HF1.out.lo x hx; simpa using this
  have l3 : ∀ x ∈ bs3, w.heap.size + 1 + 1 + 1 ≤ x := fun x hx => by have := HF3.out.lo x hx; have := HS2.out; omega
  refine bodyPost_ret (v := .agg #[.slice xa xn xc, .slice ya yn yc]) (by simp [results, Try.results35, go_sem, kr0, kr1]) rfl ⟨_, bs1 ++ bs3, rfl, ⟨_, _, _, _, _, _, rfl, bs1, bs3, ?_, ?_, rfl⟩, ⟨?_, fun b hb => ?_⟩, ((HB3.out.setCell (by simp; omega) _).setCell (by simp) _).setCell (by simp) _⟩
  · exact ((HO3.out.setCell l1 _ _ _ (by omega)).setCell l1 _ _ _ (by omega)).setCell l1 _ _ _ (by omega)
  · have hn : ∀ (g : Nat), g < w.heap.size + 1 + 1 + 1 → ∀ b ∈ bs3, b ∉ [g] := fun g hg b hb hm => by have := l3 b hb; simp at hm; omega
    have step : ∀ {wa : World} (g o : Nat) (u : Value), g < w.heap.size + 1 + 1 + 1 → ROSl 2 COAtom wa (.slice ya yn yc) d.2 bs3 → ROSl 2 COAtom (wa.setCell ⟨g, o, none⟩ u) (.slice ya yn yc) d.2 bs3 := fun g o u hg h => ROSl.onlyAt h (OnlyAt.setCell _ _ _ _) (hn g hg) (fun _ _ _ hn h => h.onlyAt hn (OnlyAt.setCell _ _ _ _))
    exact step _ _ _ (by omega) (step _ _ _ (by omega) (step _ _ _ (by omega) HA3.out))
  · rw [List.nodup_append]
    refine ⟨HF1.out.1, HF3.out.1, fun x hx y hy e => ?_⟩
    have h1 := (HF1.out.2 x hx).2
    have h2 := (HF3.out.2 y hy).1
    have h3 := HS2.out
    omega
  · simp only [World.setCell, Array.size_modify]
    rcases List.mem_append.1 hb with hb | hb
    · have h1 := HF1.out.2 b hb; have h2 := l1 b hb; have h3 := HS2.out; have h4 := HZ3.out; omega
    · have h1 := HF3.out.2 b hb; have h2 := l3 b hb; omega

theorem toQueryR (w : World) (v : Value) (d : QueryD) (h : RdQuery w v d) (hl : sizeQuery d ≤ 1048576) :
    Calls Try.prog 35 #[v] w (GaveD (fun w' v => RdQuery w' v d) w) :=
  (toQueryO w v d h hl).mono fun e w' ⟨v, bs, he, hr, _, hb⟩ => ⟨v, he, hr.rd, hb⟩

set_option maxHeartbeats 2000000 in
theorem eqQuery_any (w : World) (v v' : Value) (d d' : QueryD) (h : RdQuery w v d) (h' : RdQuery w v' d') :
    Calls Try.prog 36 #[v, v'] w (GaveBool w (decide (d = d'))) := by
  obtain ⟨a, n, c, a2, n2, c2, rfl, hi, ha⟩ := h
  obtain ⟨a', n', c', a2', n2', c2', rfl, hi', ha'⟩ := h'
  have hb0 : ∀ a b, Below w.heap.size w ((w.alloc a).alloc b) := fun a b => ((Below.refl _ _).alloc (Nat.le_refl _) _).alloc (by simp) _
  have hE := Lib.hid (fun o p => eqIntS_any _ _ _ d.1 d'.1 (hi.below (hb0 o p)) (hi'.below (hb0 o p)))
  have HB0 := Lib.hid hb0
  have hA := Lib.hid (fun w h h' => eqAtomS_any w (.slice a2 n2 c2) (.slice a2' n2' c2') d.2 d'.2 h h')
  have HA : Hid (RdAtomS w (.slice a2 n2 c2) d.2) := ⟨_, _, _, rfl, ha⟩
  have HA' : Hid (RdAtomS w (.slice a2' n2' c2') d'.2) := ⟨_, _, _, rfl, ha'⟩
  clear hi hi' ha ha' hb0
  by_cases h1 : d.1 = d'.1
  · have hq : decide (d = d') = decide (d.2 = d'.2) := by
      by_cases h2 : d.2 = d'.2
      · rw [decide_eq_true h2, decide_eq_true (Prod.ext h1 h2)]
      · rw [decide_eq_false h2, decide_eq_false (fun e => h2 (by rw [e]))]
    rw [hq]
    rw [decide_eq_true h1] at hE
    clear h1 hq
    cases hd : decide (d.2 = d'.2)
    all_goals
      rw [hd] at hA
      clear hd
      go_enter Try.func36, Try.ntmps36
      go_wp2_with fail
      refine (hE.out _ _).mono ?_
      rintro e w1 ⟨rfl, hb⟩
      have HB1 := Lib.hid (bnext (HB0.out _ _) hb)
      have kb1 := cellk hb (b := w.heap.size) (o := 1) (v := .slice a2 n2 c2) (by simp)
      have kb2 := cellk hb (b := w.heap.size + 1) (o := 1) (v := .slice a2' n2' c2') (by simp)
      clear hb
      go_wp2_with fail
      refine (hA.out _ (HA.out.below HB1.out) (HA'.out.below HB1.out)).mono ?_
      rintro e w2 ⟨rfl, hb⟩
      have HB2 := Lib.hid (bnext HB1.out hb)
      clear hb
      go_wp2_with fail
      go_ret
      exact ⟨rfl, HB2.out⟩
  · have HQ : Hid (decide (d = d') = false) := decide_eq_false (fun e => h1 (by rw [e]))
    rw [decide_eq_false h1] at hE
    clear h1
    go_enter Try.func36, Try.ntmps36
    go_wp2_with fail
    refine (hE.out _ _).mono ?_
    rintro e w1 ⟨rfl, hb⟩
    have HB1 := Lib.hid (bnext (HB0.out _ _) hb)
    clear hb
    go_wp2_with fail
    go_ret
    exact ⟨ret_b HQ.out.symm, HB1.out⟩
theorem eqQueryR (w : World) (v v' : Value) (d : QueryD) (h : RdQuery w v d) (h' : RdQuery w v' d) :
    Calls Try.prog 36 #[v, v'] w (GaveBool w true) := by
  have := eqQuery_any w v v' d d h h'
  rwa [decide_eq_true rfl] at this

def mQuery (d : QueryD) : Nat := d.1.length + mAtomS d.2
def mkQuery (k : Int) (d : QueryD) : QueryD := (iota k d.1.length, mkAtomS (k + d.1.length) d.2)
theorem mQuery_le {d : QueryD} (h : sizeQuery d ≤ 1048576) : mQuery d ≤ 1048576 := by unfold mQuery; rw [mAtomS_size]; exact h
set_option maxHeartbeats 2000000 in
theorem markQueryR (w : World) (v : Value) (d : QueryD) (bs : List Nat) (k : Int) (h : ROQuery w v d bs) (hnd : bs.Nodup) (hm : mQuery d ≤ 1048576) (h0 : 0 ≤ k) (h1 : k ≤ 4503599624224768) :
    Calls Try.prog 37 #[v, .int .i64 k] w (GaveMark (k + mQuery d) bs (fun w' => ROQuery w' v (mkQuery k d) bs) w) := by
  obtain ⟨a, n, c, a', n', c', rfl, b1, b2, hi, ha, rfl⟩ := h
  rw [List.nodup_append] at hnd
  obtain ⟨hn1, hn2, hn3⟩ := hnd
  unfold mQuery at hm ⊢
  have hb : ∀ o, Below w.heap.size w (w.alloc o) := fun o => (Below.refl _ _).alloc (Nat.le_refl _) _
  have hM := Lib.hid (fun o => markIntS_any _ (.slice a n c) d.1 b1 k (hi.below (hb o)) (by omega) h0 (by omega))
  have hA := Lib.hid (fun w h => markAtomSR w (.slice a' n' c') d.2 b2 (k + d.1.length) h hn2 (by omega) (by omega) (by omega))
  have HA : Hid (ROAtomS w (.slice a' n' c') d.2 b2) := ⟨_, _, _, rfl, ha⟩
  have HB := Lib.hid hb
  have HN3 := Lib.hid hn3
  have HLT := Lib.hid hi.lt
  have HG : Hid (∀ s t : Nat, k + (s : Int) + (t : Int) = k + ((s + t : Nat) : Int)) := fun s t => by omega
  have hs0 : 0 ≤ k + (d.1.length : Int) := by omega
  have hs1 : k + (d.1.length : Int) ≤ 9007199254740992 := by omega
  clear hi ha hb hn1 hn2 hn3
  go_enter Try.func37, Try.ntmps37
  go_wp2_with fail
  refine (hM.out _).mono ?_
  rintro e w1 ⟨rfl, hr1, ho1⟩
  have HR1 := Lib.hid hr1
  have HO1 := Lib.hid ((OnlyAt.ofBelow b1 (HB.out _)).same ho1)
  have kb1 : w1.cell? ⟨w.heap.size, 1, none⟩ = some (.slice a' n' c') := by
    have hnb : w.heap.size ∉ b1 := fun hm => by have := HLT.out _ hm; omega
    exact ho1.cell hnb (by simp)
  have HA1 : Hid (ROAtomS w1 (.slice a' n' c') d.2 b2) := (HA.out.below (HB.out _)).onlyAt ho1 (fun x hx hm => HN3.out x hm x hx rfl)
  clear hr1 ho1
  go_wp2_with fail
  refine (hA.out _ HA1.out).mono ?_
  rintro e w2 ⟨rfl, ⟨ya, yn, yc, e, hr2⟩, ho2⟩
  cases e
  have HR2 := Lib.hid hr2
  have HO2 := Lib.hid (HO1.out.trans ho2)
  have HR1' := Lib.hid (HR1.out.onlyAt ho2 (fun x hx hm => HN3.out x hx x hm rfl))
  clear hr2 ho2
  go_wp2_with fail
  go_ret
  exact ⟨ret_n (HG.out _ _), ⟨_, _, _, _, _, _, rfl, b1, b2, HR1'.out, HR2.out, rfl⟩, HO2.out⟩

set_option maxHeartbeats 2000000 in
theorem heldQueryR (w : World) (v : Value) (d : QueryD) (k : Int) (h : RdQuery w v (mkQuery k d)) (hm : mQuery d ≤ 1048576) (h0 : 0 ≤ k) (h1 : k ≤ 4503599624224768) :
    Calls Try.prog 38 #[v, .int .i64 k] w (GaveInt w (k + mQuery d)) := by
  obtain ⟨a, n, c, a', n', c', rfl, hi, ha⟩ := h
  unfold mQuery at hm ⊢
  unfold mkQuery at hi ha
  have hb : ∀ o, Below w.heap.size w (w.alloc o) := fun o => (Below.refl _ _).alloc (Nat.le_refl _) _
  have hM := Lib.hid (fun o => heldIntS_any _ (.slice a n c) (iota k d.1.length) k (hi.below (hb o)) (by rw [iota_length]) (by rw [iota_length]; omega) h0 (by omega))
  rw [iota_length] at hM
  have hA := Lib.hid (fun w h => heldAtomSR w (.slice a' n' c') d.2 (k + d.1.length) h (by omega) (by omega) (by omega))
  have HA : Hid (RdAtomS w (.slice a' n' c') (mkAtomS (k + d.1.length) d.2)) := ⟨_, _, _, rfl, ha⟩
  have HB := Lib.hid hb
  have HG : Hid (∀ s t : Nat, k + (s : Int) + (t : Int) = k + ((s + t : Nat) : Int)) := fun s t => by omega
  have hs0 : 0 ≤ k + (d.1.length : Int) := by omega
  have hs2 : 0 ≤ k + (d.1.length : Int) + (mAtomS d.2 : Int) := by omega
  clear hi ha hb
  go_enter Try.func38, Try.ntmps38
  go_wp2_with fail
  refine (hM.out _).mono ?_
  rintro e w1 ⟨rfl, hb⟩
  have HB1 := Lib.hid (bnext (HB.out _) hb)
  have kb1 := cellk hb (b := w.heap.size) (o := 1) (v := .slice a' n' c') (by simp)
  clear hb
  go_wp2_with fail
  refine (hA.out _ (HA.out.below HB1.out)).mono ?_
  rintro e w2 ⟨rfl, hb⟩
  have HB2 := Lib.hid (bnext HB1.out hb)
  clear hb
  go_wp2_with fail
  go_ret
  exact ⟨ret_n (HG.out _ _), HB2.out⟩
end Go.Proofs.Ytpedpbbiamhgdaa
