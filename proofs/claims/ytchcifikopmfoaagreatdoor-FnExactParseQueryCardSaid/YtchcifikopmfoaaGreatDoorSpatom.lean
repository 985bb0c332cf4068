/- Contract of chapter 3's spec: ParseAtom. -/
import Derived.Test.YtchcifikopmfoaaGreatDoorScut
import Derived.Test.YtchcifikopmfoaaGreatDoorSfatom
import Derived.Test.YtchcifikopmfoaaGreatDoorMark
namespace Go.Proofs.YtchcifikopmfoaaGreatDoor
open Go.RowKit
set_option linter.unusedVariables false

/-- A call that answers a value of which R holds, and a bool. -/
def GaveP (R : World → Value → Prop) (b : Bool) (w : World) (e : Ending) (w' : World) : Prop := ∃ v, e = .returned (.tuple #[v, .bool b]) ∧ R w' v ∧ Below w.heap.size w w'
def pRel (l : List UInt8) : List UInt8 := (l.drop 1).take 1
def pMid (l : List UInt8) : List UInt8 := (l.take (l.length - 1)).drop 3
def paOk (l : List UInt8) : Bool := decide (4 ≤ l.length) && (sOk (pRel l) && decide (fatom (sRes (pRel l)) (pargs (pMid l)) = l))
def paRes (l : List UInt8) : Int × List Int := if paOk l then (sRes (pRel l), pargs (pMid l)) else (0, [])
theorem pa_no {l : List UInt8} (h : paOk l = false) : paRes l = (0, []) := by unfold paRes; rw [h]; rfl
theorem pa_yes {l : List UInt8} (h : paOk l = true) : paRes l = (sRes (pRel l), pargs (pMid l)) := by unfold paRes; rw [h]; rfl
theorem zeroAtomO (w : World) : ROAtom w (.agg #[.int .i64 0, .slice none 0 0]) (0, []) [] := ⟨none, 0, 0, rfl, ⟨by decide, by decide⟩, ⟨Ints.nil w, .inl ⟨none, 0, rfl, rfl⟩⟩⟩
theorem freshNil (w w' : World) : Fresh w w' [] := ⟨by simp, by simp⟩
def GavePO (d : Int × List Int) (b : Bool) (w : World) (e : Ending) (w' : World) : Prop := ∃ v bs, e = .returned (.tuple #[v, .bool b]) ∧ ROAtom w' v d bs ∧ Fresh w w' bs ∧ Below w.heap.size w w'
theorem zeroAtom (w : World) : RdAtom w (.agg #[.int .i64 0, .slice none 0 0]) (0, []) := ⟨none, 0, 0, rfl, ⟨by decide, by decide⟩, Ints.nil w⟩

theorem fatom_len {r : Int} {l : List Int} (h : fatom r l ≠ []) : inB r 0 3 = true ∧ termsB l = true ∧ l.length ≤ 3 := by
  unfold fatom at h
  split at h
  · rename_i hc
    rw [Bool.and_eq_true] at hc
    refine ⟨hc.1, hc.2, ?_⟩
    have h2 := hc.2
    unfold termsB at h2
    rw [Bool.and_eq_true] at h2
    exact of_decide_eq_true h2.2
  · exact absurd rfl h
theorem paRes_len (l : List UInt8) : mAtom (paRes l) ≤ 1048576 := by
  cases h : paOk l with
  | false => rw [pa_no h]; exact Nat.zero_le _
  | true =>
    rw [pa_yes h]
    unfold paOk at h
    simp only [Bool.and_eq_true, decide_eq_true_eq] at h
    have h3 := fatom_len (r := sRes (pRel l)) (l := pargs (pMid l)) (by rw [h.2.2]; intro e; rw [e] at h; simp at h)
    show (pargs (pMid l)).length ≤ 1048576
    omega

set_option maxRecDepth 100000 in
set_option maxHeartbeats 2000000 in
theorem sParseAtomO (s : ByteArray) (w : World) (hs : s.size ≤ 1048576) :
    Calls Tryz.prog 16 #[.string s] w (GavePO (paRes s.data.toList) (paOk s.data.toList) w) := by
  have hll : s.data.toList.length = s.size := by simp
  by_cases h4 : 4 ≤ s.size
  · have hsl1 := fun (w : World) => run_slice_string (P := Tryz.prog) (w := w) 9 s .i64 .i64 1 2 Tryz.underlying9 (by omega) (by omega) (by omega)
    have hsl2 := fun (w : World) => run_slice_string (P := Tryz.prog) (w := w) 9 s .i64 .i64 3 ((s.size : Int) - 1) Tryz.underlying9 (by omega) (by omega) (by omega)
    have e2 : ((s.size : Int) - 1).toNat = s.size - 1 := by omega
    rw [e2] at hsl2
    obtain ⟨sa, hsa⟩ : ∃ sa, s.extract (Int.toNat 1) (Int.toNat 2) = sa := ⟨_, rfl⟩
    obtain ⟨sb, hsb⟩ : ∃ sb, s.extract (Int.toNat 3) (s.size - 1) = sb := ⟨_, rfl⟩
    rw [hsa] at hsl1
    rw [hsb] at hsl2
    have hra : sa.data.toList = pRel s.data.toList := by rw [← hsa, Lib.extract_data]; rfl
    have hrb : sb.data.toList = pMid s.data.toList := by
      rw [← hsb, Lib.extract_data]
      unfold pMid
      rw [hll, List.drop_take]
      rfl
    have hza : sa.size ≤ 1048576 := by rw [← hsa]; simp; omega
    have hzb : sb.size ≤ 1048576 := by rw [← hsb]; simp; omega
    have hP := Lib.hid (fun w => sParseInt_any sa w hza)
    have hA := Lib.hid (fun w => sArgs_any sb w hzb)
    have hrbd := sRes_bd sa.data.toList
    rw [hra] at hP hrbd
    rw [hrb] at hA
    have hpa : paOk s.data.toList = (sOk (pRel s.data.toList) && decide (fatom (sRes (pRel s.data.toList)) (pargs (pMid s.data.toList)) = s.data.toList)) := by
      unfold paOk; rw [hll, decide_eq_true h4]; rfl
    cases hok : sOk (pRel s.data.toList) with
    | false =>
      have hno : paOk s.data.toList = false := by rw [hpa, hok]; rfl
      rw [pa_no hno, hno]
      rw [hok] at hP
      generalize sRes (pRel s.data.toList) = R at *
      generalize pargs (pMid s.data.toList) = L at *
      clear hpa hno hok hra hrb hsa hsb hll e2
      go_enter Tryz.func16, Tryz.ntmps16
      go_wp2_with fail
      refine (hP.out _).mono ?_
      rintro e w1 ⟨rfl, hb⟩
      have hb0 : Below w.heap.size w (w.alloc (.cells #[.int .i64 0, .slice none 0 0] 43)) := (Below.refl _ _).alloc (Nat.le_refl _) _
      have HB1 := Lib.hid (bnext hb0 hb)
      have kr0 := cellk hb (b := w.heap.size) (o := 0) (v := .int .i64 0) (by simp)
      have kr1 := cellk hb (b := w.heap.size) (o := 1) (v := .slice none 0 0) (by simp)
      have kf0 : w1.frozen? ⟨w.heap.size, 0, none⟩ = false := frok hb (v := .int .i64 0) (by simp) (by simp)
      have kf1 : w1.frozen? ⟨w.heap.size, 1, none⟩ = false := frok hb (v := .slice none 0 0) (by simp) (by simp)
      clear hb hb0
      go_wp2_with fail
      refine (hA.out _).mono ?_
      rintro e w2 ⟨v, bs', rfl, ho, hfre, hb⟩
      obtain ⟨a, n, c, rfl⟩ := ho.1.shape
      have HB2 := Lib.hid (bnext HB1.out hb)
      replace kf0 := frok hb kr0 kf0
      replace kf1 := frok hb kr1 kf1
      replace kr0 := cellk hb kr0
      replace kr1 := cellk hb kr1
      have hlt := World.block_lt_of_cell? w2 _ kr0
      clear hb ho hfre
      go_wp2_with fail
      exact bodyPost_ret (v := .tuple #[.agg #[.int .i64 0, .slice none 0 0], .bool false]) (by simp [results, Tryz.results16, go_sem, kr0, kr1, hlt]) rfl ⟨_, [], rfl, zeroAtomO _, freshNil _ _, ((HB2.out.setCell (by simp) _).setCell (by simp) _).alloc (by simp [World.setCell]; omega) _⟩
    | true =>
      have hrI : inI (sRes (pRel s.data.toList)) := by unfold inI; omega
      have hF := Lib.hid (fun w v h => sFormatAtom_any w (sRes (pRel s.data.toList)) v (pargs (pMid s.data.toList)) hrI h)
      have hq : ∃ q : Bool, (fatom (sRes (pRel s.data.toList)) (pargs (pMid s.data.toList)) == s.toList) = q ∧ paOk s.data.toList = q := by
        refine ⟨_, cmp_l _ _, ?_⟩
        rw [hpa, hok]; rfl
      obtain ⟨q, hq1, hq2⟩ := hq
      have HPR : Hid (paRes s.data.toList = if q then (sRes (pRel s.data.toList), pargs (pMid s.data.toList)) else (0, [])) := by unfold Hid paRes; rw [hq2]
      rw [hok] at hP
      rw [hq2, HPR.out]
      have HRI := Lib.hid hrI
      generalize sRes (pRel s.data.toList) = R at *
      generalize pargs (pMid s.data.toList) = L at *
      generalize fatom R L = FA at *
      clear hpa hok hra hrb hsa hsb hll e2 hq2 HPR hrI
      cases q
      all_goals
        go_enter Tryz.func16, Tryz.ntmps16
        go_wp2_with fail
        refine (hP.out _).mono ?_
        rintro e w1 ⟨rfl, hb⟩
        have hb0 : Below w.heap.size w (w.alloc (.cells #[.int .i64 0, .slice none 0 0] 43)) := (Below.refl _ _).alloc (Nat.le_refl _) _
        have HB1 := Lib.hid (bnext hb0 hb)
        have kr0 := cellk hb (b := w.heap.size) (o := 0) (v := .int .i64 0) (by simp)
        have kr1 := cellk hb (b := w.heap.size) (o := 1) (v := .slice none 0 0) (by simp)
        have kf0 : w1.frozen? ⟨w.heap.size, 0, none⟩ = false := frok hb (v := .int .i64 0) (by simp) (by simp)
        have kf1 : w1.frozen? ⟨w.heap.size, 1, none⟩ = false := frok hb (v := .slice none 0 0) (by simp) (by simp)
        clear hb hb0
        go_wp2_with fail
        refine (hA.out _).mono ?_
        rintro e w2 ⟨v, bs', rfl, ho, hfre, hb⟩
        obtain ⟨a, n, c, rfl⟩ := ho.1.shape
        have HV := Lib.hid ho.1
        have HB2 := Lib.hid (bnext HB1.out hb)
        have hnot : Hid (∀ b ∈ bs', w1.heap.size ≤ b) := hfre.lo
        have HO := Lib.hid ho
        have HFR := Lib.hid hfre
        have HSZ1 := Lib.hid HB1.out.size
        have hlt1 := World.block_lt_of_cell? w1 _ kr0
        replace kf0 := frok hb kr0 kf0
        replace kf1 := frok hb kr1 kf1
        replace kr0 := cellk hb kr0
        replace kr1 := cellk hb kr1
        have hlt := World.block_lt_of_cell? w2 _ kr0
        have hal := below_alloc w2 (.cells #[.int .i64 R, .slice a n c] 43)
        have HAL := Lib.hid hal
        have HF1 := Lib.hid (fun o => hF.out _ (.slice a n c) (ho.1.below (below_alloc w2 o)))
        clear hb ho hfre hal
        go_wp2_with fail
        refine (HF1.out _).mono ?_
        rintro e w3 ⟨rfl, hb⟩
        have HB3 := Lib.hid (bnext HB2.out (bnext HAL.out hb))
        have HO3 := Lib.hid (HO.out.below (bnext HAL.out hb))
        have HSZ3 := Lib.hid (bnext HAL.out hb).size
        have kx0 := cellk hb (b := w2.heap.size) (o := 0) (v := .int .i64 R) (by simp)
        have kx1 := cellk hb (b := w2.heap.size) (o := 1) (v := .slice a n c) (by simp)
        replace kf0 := frok (bnext HAL.out hb) kr0 kf0
        replace kf1 := frok (bnext HAL.out hb) kr1 kf1
        replace kr0 := cellk (bnext HAL.out hb) kr0
        replace kr1 := cellk (bnext HAL.out hb) kr1
        clear hb
        go_wp2_with fail
      · exact bodyPost_ret (v := .tuple #[.agg #[.int .i64 0, .slice none 0 0], .bool false]) (by simp [results, Tryz.results16, go_sem, kr0, kr1]) rfl ⟨_, [], rfl, zeroAtomO _, freshNil _ _, (HB3.out.setCell (by simp) _).setCell (by simp) _⟩
      · refine bodyPost_ret (v := .tuple #[.agg #[.int .i64 R, .slice a n c], .bool true]) (by simp [results, Tryz.results16, go_sem, kr0, kr1]) rfl ⟨_, bs', rfl, ⟨a, n, c, rfl, HRI.out, ?_⟩, HFR.out.wide HSZ1.out (by simp [World.setCell]; exact HSZ3.out), (HB3.out.setCell (by simp) _).setCell (by simp) _⟩
        exact (HO3.out.setCell hnot.out _ _ _ hlt1).setCell hnot.out _ _ _ hlt1
  · have hno : paOk s.data.toList = false := by unfold paOk; rw [hll, decide_eq_false h4]; rfl
    rw [pa_no hno, hno]
    clear hno hll
    go_enter Tryz.func16, Tryz.ntmps16
    go_wp2_with fail
    exact bodyPost_ret (v := .tuple #[.agg #[.int .i64 0, .slice none 0 0], .bool false]) (by simp [results, Tryz.results16, go_sem]) rfl ⟨_, [], rfl, zeroAtomO _, freshNil _ _, (Below.refl _ _).alloc (Nat.le_refl _) _⟩
theorem sParseAtom_any (s : ByteArray) (w : World) (hs : s.size ≤ 1048576) :
    Calls Tryz.prog 16 #[.string s] w (GaveP (fun w' v => RdAtom w' v (paRes s.data.toList)) (paOk s.data.toList) w) :=
  (sParseAtomO s w hs).mono fun e w' ⟨v, bs, he, hr, _, hb⟩ => ⟨v, he, hr.rd, hb⟩
end Go.Proofs.YtchcifikopmfoaaGreatDoor
