/- The laws' helpers on Query: sz, to, eq, mark, held. -/
import Derived.Test.YtchcifikopmfoaaGreatDoorMatoms
namespace Go.Proofs.YtchcifikopmfoaaGreatDoor
open Go.RowKit
set_option linter.unusedVariables false

abbrev QueryD := List Int × List AtomD
def RdQuery (w : World) (v : Value) (d : QueryD) : Prop := ∃ a n c a' n' c', v = .agg #[.slice a n c, .slice a' n' c'] ∧ Ints w (.slice a n c) d.1 ∧ RdSl 2 CsAtom w (.slice a' n' c') d.2
def ROQuery (w : World) (v : Value) (d : QueryD) (bs : List Nat) : Prop := ∃ a n c a' n' c', v = .agg #[.slice a n c, .slice a' n' c'] ∧ ∃ b1 b2, OInts w (.slice a n c) d.1 b1 ∧ ROSl 2 COAtom w (.slice a' n' c') d.2 b2 ∧ bs = b1 ++ b2
theorem RdQuery.below {w w' : World} {v : Value} {d : QueryD} (h : RdQuery w v d) (hb : Below w.heap.size w w') : RdQuery w' v d := by
  obtain ⟨a, n, c, a', n', c', rfl, h1, h2⟩ := h
  exact ⟨a, n, c, a', n', c', rfl, h1.below hb, RdSl.below h2 (fun _ _ h => h.below hb) hb⟩
theorem ROQuery.rd {w : World} {v : Value} {d : QueryD} {bs : List Nat} (h : ROQuery w v d bs) : RdQuery w v d := by
  obtain ⟨a, n, c, a', n', c', rfl, b1, b2, h1, h2, rfl⟩ := h
  exact ⟨a, n, c, a', n', c', rfl, h1.1, ROSl.rd h2 (fun _ _ _ h => h.rd)⟩
theorem ROQuery.below {w w' : World} {v : Value} {d : QueryD} {bs : List Nat} (h : ROQuery w v d bs) (hb : Below w.heap.size w w') : ROQuery w' v d bs := by
  obtain ⟨a, n, c, a', n', c', rfl, b1, b2, h1, h2, rfl⟩ := h
  exact ⟨a, n, c, a', n', c', rfl, b1, b2, h1.below hb, ROSl.below h2 hb (fun _ _ _ h => h.below hb), rfl⟩
theorem ROQuery.onlyAt {w w' : World} {v : Value} {d : QueryD} {bs bs' : List Nat} (h : ROQuery w v d bs) (k : OnlyAt bs' w w') (hn : ∀ b ∈ bs, b ∉ bs') : ROQuery w' v d bs := by
  obtain ⟨a, n, c, a', n', c', rfl, b1, b2, h1, h2, rfl⟩ := h
  exact ⟨a, n, c, a', n', c', rfl, b1, b2, h1.onlyAt k (fun x hx => hn x (by simp [hx])), ROSl.onlyAt h2 k (fun x hx => hn x (by simp [hx])) (fun _ _ _ hn h => h.onlyAt hn k), rfl⟩
def sizeQuery (d : QueryD) : Nat := d.1.length + sizeAtomS d.2

set_option maxHeartbeats 2000000 in
theorem eqQuery_any (w : World) (v v' : Value) (d d' : QueryD) (h : RdQuery w v d) (h' : RdQuery w v' d') :
    Calls Tryz.prog 8 #[v, v'] w (GaveBool w (decide (d = d'))) := by
  obtain ⟨a, n, c, a2, n2, c2, rfl, hi, ha⟩ := h
  obtain ⟨a', n', c', a2', n2', c2', rfl, hi', ha'⟩ := h'
  have hb0 : ∀ a b, Below w.heap.size w ((w.alloc a).alloc b) := fun a b => ((Below.refl _ _).alloc (Nat.le_refl _) _).alloc (by simp) _
  have hE := Lib.hid (fun o p => eqIntS_any _ _ _ d.1 d'.1 (hi.below (hb0 o p)) (hi'.below (hb0 o p)))
  have HB0 := Lib.hid hb0
  have hA := Lib.hid (fun w h h' => eqAtomS_any w (.slice a2 n2 c2) (.slice a2' n2' c2') d.2 d'.2 h h')
  have HA : Hid (RdAtomS w (.slice a2 n2 c2) d.2) := ⟨_, _, _, rfl, ha⟩
  have HA' : Hid (RdAtomS w (.slice a2' n2' c2') d'.2) := ⟨_, _, _, rfl, ha'⟩
  clear hi hi' ha ha' hb0
  by_cases h1 : d.1 = d'.1
  · have hq : decide (d = d') = decide (d.2 = d'.2) := by
      by_cases h2 : d.2 = d'.2
      · rw [decide_eq_true h2, decide_eq_true (Prod.ext h1 h2)]
      · rw [decide_eq_false h2, decide_eq_false (fun e => h2 (by rw [e]))]
    rw [hq]
    rw [decide_eq_true h1] at hE
    clear h1 hq
    cases hd : decide (d.2 = d'.2)
    all_goals
      rw [hd] at hA
      clear hd
      go_enter Tryz.func8, Tryz.ntmps8
      go_wp2_with fail
      refine (hE.out _ _).mono ?_
      rintro e w1 ⟨rfl, hb⟩
      have HB1 := Lib.hid (bnext (HB0.out _ _) hb)
      have kb1 := cellk hb (b := w.heap.size) (o := 1) (v := .slice a2 n2 c2) (by simp)
      have kb2 := cellk hb (b := w.heap.size + 1) (o := 1) (v := .slice a2' n2' c2') (by simp)
      clear hb
      go_wp2_with fail
      refine (hA.out _ (HA.out.below HB1.out) (HA'.out.below HB1.out)).mono ?_
      rintro e w2 ⟨rfl, hb⟩
      have HB2 := Lib.hid (bnext HB1.out hb)
      clear hb
      go_wp2_with fail
      go_ret
      exact ⟨rfl, HB2.out⟩
  · have HQ : Hid (decide (d = d') = false) := decide_eq_false (fun e => h1 (by rw [e]))
    rw [decide_eq_false h1] at hE
    clear h1
    go_enter Tryz.func8, Tryz.ntmps8
    go_wp2_with fail
    refine (hE.out _ _).mono ?_
    rintro e w1 ⟨rfl, hb⟩
    have HB1 := Lib.hid (bnext (HB0.out _ _) hb)
    clear hb
    go_wp2_with fail
    go_ret
    exact ⟨ret_b HQ.out.symm, HB1.out⟩
theorem eqQueryR (w : World) (v v' : Value) (d : QueryD) (h : RdQuery w v d) (h' : RdQuery w v' d) :
    Calls Tryz.prog 8 #[v, v'] w (GaveBool w true) := by
  have := eqQuery_any w v v' d d h h'
  rwa [decide_eq_true rfl] at this

def mQuery (d : QueryD) : Nat := d.1.length + mAtomS d.2
def mkQuery (k : Int) (d : QueryD) : QueryD := (iota k d.1.length, mkAtomS (k + d.1.length) d.2)
theorem mQuery_le {d : QueryD} (h : sizeQuery d ≤ 1048576) : mQuery d ≤ 1048576 := by unfold mQuery; rw [mAtomS_size]; exact h
set_option maxHeartbeats 2000000 in
theorem markQueryR (w : World) (v : Value) (d : QueryD) (bs : List Nat) (k : Int) (h : ROQuery w v d bs) (hnd : bs.Nodup) (hm : mQuery d ≤ 1048576) (h0 : 0 ≤ k) (h1 : k ≤ 4503599624224768) :
    Calls Tryz.prog 11 #[v, .int .i64 k] w (GaveMark (k + mQuery d) bs (fun w' => ROQuery w' v (mkQuery k d) bs) w) := by
  obtain ⟨a, n, c, a', n', c', rfl, b1, b2, hi, ha, rfl⟩ := h
  rw [List.nodup_append] at hnd
  obtain ⟨hn1, hn2, hn3⟩ := hnd
  unfold mQuery at hm ⊢
  have hb : ∀ o, Below w.heap.size w (w.alloc o) := fun o => (Below.refl _ _).alloc (Nat.le_refl _) _
  have hM := Lib.hid (fun o => markIntS_any _ (.slice a n c) d.1 b1 k (hi.below (hb o)) (by omega) h0 (by omega))
  have hA := Lib.hid (fun w h => markAtomSR w (.slice a' n' c') d.2 b2 (k + d.1.length) h hn2 (by omega) (by omega) (by omega))
  have HA : Hid (ROAtomS w (.slice a' n' c') d.2 b2) := ⟨_, _, _, rfl, ha⟩
  have HB := Lib.hid hb
  have HN3 := Lib.hid hn3
  have HLT := Lib.hid hi.lt
  have HG : Hid (∀ s t : Nat, k + (s : Int) + (t : Int) = k + ((s + t : Nat) : Int)) := fun s t => by omega
  have hs0 : 0 ≤ k + (d.1.length : Int) := by omega
  have hs1 : k + (d.1.length : Int) ≤ 9007199254740992 := by omega
  clear hi ha hb hn1 hn2 hn3
  go_enter Tryz.func11, Tryz.ntmps11
  go_wp2_with fail
  refine (hM.out _).mono ?_
  rintro e w1 ⟨rfl, hr1, ho1⟩
  have HR1 := Lib.hid hr1
  have HO1 := Lib.hid ((OnlyAt.ofBelow b1 (HB.out _)).same ho1)
  have kb1 : w1.cell? ⟨w.heap.size, 1, none⟩ = some (.slice a' n' c') := by
    have hnb : w.heap.size ∉ b1 := fun hm => by have := HLT.out _ hm; omega
    exact ho1.cell hnb (by simp)
  have HA1 : Hid (ROAtomS w1 (.slice a' n' c') d.2 b2) := (HA.out.below (HB.out _)).onlyAt ho1 (fun x hx hm => HN3.out x hm x hx rfl)
  clear hr1 ho1
  go_wp2_with fail
  refine (hA.out _ HA1.out).mono ?_
  rintro e w2 ⟨rfl, ⟨ya, yn, yc, e, hr2⟩, ho2⟩
  cases e
  have HR2 := Lib.hid hr2
  have HO2 := Lib.hid (HO1.out.trans ho2)
  have HR1' := Lib.hid (HR1.out.onlyAt ho2 (fun x hx hm => HN3.out x hx x hm rfl))
  clear hr2 ho2
  go_wp2_with fail
  go_ret
  exact ⟨ret_n (HG.out _ _), ⟨_, _, _, _, _, _, rfl, b1, b2, HR1'.out, HR2.out, rfl⟩, HO2.out⟩

set_option maxHeartbeats 2000000 in
theorem heldQueryR (w : World) (v : Value) (d : QueryD) (k : Int) (h : RdQuery w v (mkQuery k d)) (hm : mQuery d ≤ 1048576) (h0 : 0 ≤ k) (h1 : k ≤ 4503599624224768) :
    Calls Tryz.prog 12 #[v, .int .i64 k] w (GaveInt w (k + mQuery d)) := by
  obtain ⟨a, n, c, a', n', c', rfl, hi, ha⟩ := h
  unfold mQuery at hm ⊢
  unfold mkQuery at hi ha
  have hb : ∀ o, Below w.heap.size w (w.alloc o) := fun o => (Below.refl _ _).alloc (Nat.le_refl _) _
  have hM := Lib.hid (fun o => heldIntS_any _ (.slice a n c) (iota k d.1.length) k (hi.below (hb o)) (by rw [iota_length]) (by rw [iota_length]; omega) h0 (by omega))
  rw [iota_length] at hM
  have hA := Lib.hid (fun w h => heldAtomSR w (.slice a' n' c') d.2 (k + d.1.length) h (by omega) (by omega) (by omega))
  have HA : Hid (RdAtomS w (.slice a' n' c') (mkAtomS (k + d.1.length) d.2)) := ⟨_, _, _, rfl, ha⟩
  have HB := Lib.hid hb
  have HG : Hid (∀ s t : Nat, k + (s : Int) + (t : Int) = k + ((s + t : Nat) : Int)) := fun s t => by omega
  have hs0 : 0 ≤ k + (d.1.length : Int) := by omega
  have hs2 : 0 ≤ k + (d.1.length : Int) + (mAtomS d.2 : Int) := by omega
  clear hi ha hb
  go_enter Tryz.func12, Tryz.ntmps12
  go_wp2_with fail
  refine (hM.out _).mono ?_
  rintro e w1 ⟨rfl, hb⟩
  have HB1 := Lib.hid (bnext (HB.out _) hb)
  have kb1 := cellk hb (b := w.heap.size) (o := 1) (v := .slice a' n' c') (by simp)
  clear hb
  go_wp2_with fail
  refine (hA.out _ (HA.out.below HB1.out)).mono ?_
  rintro e w2 ⟨rfl, hb⟩
  have HB2 := Lib.hid (bnext HB1.out hb)
  clear hb
  go_wp2_with fail
  go_ret
  exact ⟨ret_n (HG.out _ _), HB2.out⟩
end Go.Proofs.YtchcifikopmfoaaGreatDoor
