/- Contract of chapter 4's spec: ParseQuery. -/
import Derived.Test.YtchcifikopmfoaaGreatDoorSvars
import Derived.Test.YtchcifikopmfoaaGreatDoorSfquery
import Derived.Test.YtchcifikopmfoaaGreatDoorSpatom
import Derived.Test.YtchcifikopmfoaaGreatDoorQInv
import Derived.Laws.Strings2
namespace Go.Proofs.YtchcifikopmfoaaGreatDoor
open Go Go.Sort Go.RowKit
set_option linter.unusedVariables false

def isSepB (l : List UInt8) (i : Nat) : Bool := decide ((l.drop i).take 4 = [32, 58, 45, 32])
def pqHead (h : List UInt8) : List Int := if h = [121, 101, 115] then [] else pargs h
def pqT (k : Nat) (t : List UInt8) : List UInt8 := if 0 < k then t.drop 1 else t
def pqAtoms (l : List (List UInt8)) : Nat → List AtomD
  | 0 => []
  | i + 1 => pqAtoms l i ++ [paRes (pqT i (l.getD i []))]
def pqParts (l : List UInt8) (i : Nat) : List (List UInt8) := cutL 59 (l.drop (i + 4))
def pqAt (l : List UInt8) (i : Nat) : QueryD := (pqHead (l.take i), pqAtoms (pqParts l i) (pqParts l i).length)
def pqOkAt (s : List Int) (l : List UInt8) (i : Nat) : Bool := fineB s (pqAt l i) 4 && decide (fquery (pqAt l i) = l)
def firstSep (l : List UInt8) : Option Nat := (List.range l.length).find? (fun i => decide (i + 4 ≤ l.length) && isSepB l i)
def pqOk (s : List Int) (l : List UInt8) : Bool := match firstSep l with | none => false | some i => pqOkAt s l i
def pqRes (s : List Int) (l : List UInt8) : QueryD := match firstSep l with | none => ([], []) | some i => if pqOkAt s l i then pqAt l i else ([], [])
theorem firstSep_some {l : List UInt8} {i : Nat} (h4 : i + 4 ≤ l.length) (h : isSepB l i = true) (hb : ∀ j, j < i → isSepB l j = false) : firstSep l = some i := by
  unfold firstSep
  rw [List.find?_range_eq_some]
  refine ⟨by rw [h, decide_eq_true h4]; rfl, by simp; omega, fun j hj => by rw [hb j hj, Bool.and_false]; rfl⟩
theorem firstSep_none {l : List UInt8} (hb : ∀ j, j + 4 ≤ l.length → isSepB l j = false) : firstSep l = none := by
  unfold firstSep
  rw [List.find?_eq_none]
  intro j _
  by_cases h : j + 4 ≤ l.length
  · rw [hb j h]; simp
  · simp [h]
theorem pqAtoms_len (l : List (List UInt8)) (k : Nat) : (pqAtoms l k).length = k := by
  induction k with
  | zero => rfl
  | succ k ih => simp [pqAtoms, ih]

def GavePQ (s : List Int) (l : List UInt8) (w : World) (e : Ending) (w' : World) : Prop := ∃ v, e = .returned (.tuple #[v, .bool (pqOk s l)]) ∧ RdQuery w' v (pqRes s l) ∧ Below w.heap.size w w'
theorem zeroQuery (w : World) : RdQuery w (.agg #[.slice none 0 0, .slice none 0 0]) ([], []) := ⟨none, 0, 0, none, 0, 0, rfl, Ints.nil w, none, 0, 0, rfl, rfl, Nat.le_refl _, Nat.zero_le _, fun h => by omega⟩

def tot (l : List (List UInt8)) : Nat := (l.map List.length).sum + l.length
theorem tot_cons (a : List UInt8) (l : List (List UInt8)) : tot (a :: l) = tot l + a.length + 1 := by simp [tot]; omega
theorem tot_app1 (l : List (List UInt8)) (a : List UInt8) : tot (l ++ [a]) = tot l + a.length + 1 := by simp [tot]; omega
theorem tot_cut (c : UInt8) (l part : List UInt8) : tot (cutGo c l part) = l.length + part.length + 1 := by
  induction l generalizing part with
  | nil => simp [cutGo, tot]
  | cons b l ih =>
    unfold cutGo
    split
    · rw [tot_cons, ih]; simp
    · rw [ih]; simp; omega
theorem paRes_small (l : List UInt8) : (paRes l).2.length ≤ l.length := by
  cases h : paOk l with
  | false => rw [pa_no h]; exact Nat.zero_le _
  | true =>
    rw [pa_yes h]
    unfold paOk at h
    rw [Bool.and_eq_true, Bool.and_eq_true] at h
    have h4 := of_decide_eq_true h.1
    have h5 := of_decide_eq_true h.2.2
    have h6 := fatom_len (r := sRes (pRel l)) (l := pargs (pMid l)) (by rw [h5]; intro e; rw [e] at h4; simp at h4)
    show (pargs (pMid l)).length ≤ l.length
    omega
theorem sizeAtomS_app1 (l : List AtomD) (x : AtomD) : sizeAtomS (l ++ [x]) = sizeAtomS l + (1 + x.2.length) := by
  unfold sizeAtomS sumArgs; simp; omega
theorem pqT_len (k : Nat) (t : List UInt8) : (pqT k t).length ≤ t.length := by unfold pqT; split <;> simp
theorem pqAtoms_size (l : List (List UInt8)) (k : Nat) (h : k ≤ l.length) : sizeAtomS (pqAtoms l k) ≤ tot (l.take k) := by
  induction k with
  | zero => simp [pqAtoms, sizeAtomS, sumArgs]
  | succ k ih =>
    have hk : k < l.length := by omega
    have h1 := ih (by omega)
    have h2 := paRes_small (pqT k (l.getD k []))
    have h3 := pqT_len k (l.getD k [])
    have hg : l.getD k [] = l[k] := by simp [List.getD, List.getElem?_eq_getElem hk]
    rw [pqAtoms, sizeAtomS_app1, List.take_succ_eq_append_getElem hk, tot_app1, ← hg]
    omega
theorem pqAt_size (l : List UInt8) (i : Nat) (h : i + 4 ≤ l.length) : sizeAtomS (pqAt l i).2 ≤ l.length := by
  have h1 := pqAtoms_size (pqParts l i) (pqParts l i).length (Nat.le_refl _)
  rw [List.take_length] at h1
  have h2 := tot_cut 59 (l.drop (i + 4)) []
  have h3 : tot (pqParts l i) = tot (cutGo 59 (l.drop (i + 4)) []) := rfl
  rw [h3, h2, List.length_drop] at h1
  show sizeAtomS (pqAtoms (pqParts l i) (pqParts l i).length) ≤ l.length
  simp at h1
  omega

theorem eqb_true {s : ByteArray} {l : List UInt8} (h : s.data.toList = l) : (s.toList == l) = true := by rw [Lib.toList_data, h]; simp
theorem eqb_false {s : ByteArray} {l : List UInt8} (h : s.data.toList ≠ l) : (s.toList == l) = false := by rw [Lib.toList_data]; simpa using h
theorem part_len (l : List UInt8) (i k : Nat) : ((pqParts l i).getD k []).length ≤ l.length := by
  have h := cutGo_mem 59 (l.drop (i + 4)) []
  rw [List.getD_eq_getElem?_getD]
  rcases Nat.lt_or_ge k (pqParts l i).length with hk | hk
  · rw [List.getElem?_eq_getElem hk]
    have := h _ (List.getElem_mem hk)
    simp at this ⊢
    omega
  · rw [List.getElem?_eq_none hk]; simp

set_option maxRecDepth 100000 in
set_option maxHeartbeats 16000000 in
theorem sParseQuery_any (w : World) (vs : Value) (s : List Int) (x : ByteArray) (hv : RdSchema w vs s) (hs : x.size ≤ 1048576) :
    Calls Tryz.prog 5 #[vs, .string x] w (GavePQ s x.data.toList w) := by
  have hll : x.data.toList.length = x.size := by simp
  obtain ⟨a, n, c, rfl, hints⟩ := hv
  have HV := Lib.hid hints
  have hb0 : ∀ a b, Below w.heap.size w ((w.alloc a).alloc b) := fun a b => ((Below.refl _ _).alloc (Nat.le_refl _) _).alloc (by simp) _
  have HB0 := Lib.hid hb0
  have HLL := Lib.hid hll
  obtain ⟨l, hl⟩ : ∃ l, x.data.toList = l := ⟨_, rfl⟩
  have HXL := Lib.hid hl
  clear hints hll hb0
  rw [hl] at HLL ⊢
  clear hl
  go_enter Tryz.func5, Tryz.ntmps5
  go_wp2_with fail
  obtain ⟨W0, hW⟩ : ∃ W, W = (w.alloc (.cells #[.slice a n c] 31)).alloc (.cells #[.slice none 0 0, .slice none 0 0] 28) := ⟨_, rfl⟩
  have KS : Hid (W0.cell? ⟨w.heap.size, 0, none⟩ = some (.slice a n c)) := by rw [hW]; unfold Hid; simp
  have KR0 : Hid (W0.cell? ⟨w.heap.size + 1, 0, none⟩ = some (.slice none 0 0)) := by rw [hW]; unfold Hid; simp
  have KR1 : Hid (W0.cell? ⟨w.heap.size + 1, 1, none⟩ = some (.slice none 0 0)) := by rw [hW]; unfold Hid; simp
  have KF0 : Hid (W0.frozen? ⟨w.heap.size + 1, 0, none⟩ = false) := by rw [hW]; unfold Hid; simp
  have KF1 : Hid (W0.frozen? ⟨w.heap.size + 1, 1, none⟩ = false) := by rw [hW]; unfold Hid; simp
  have HBW : Hid (Below w.heap.size w W0) := by rw [hW]; exact HB0.out _ _
  have HWS : Hid (W0.heap.size = w.heap.size + 2) := by rw [hW]; unfold Hid; simp
  rw [← hW]
  clear hW
  go_loopw [6] (fun iv wr => ∃ i : Nat, i ≤ x.size ∧ iv = .int .i64 i ∧ wr = W0 ∧ Hid (∀ j, j < i → isSepB l j = false)) (fun iv _ => x.size - (intOf iv).toNat)
  case atStart => exact ⟨0, by omega, rfl, rfl, fun j hj => by omega⟩
  case round =>
    obtain ⟨i, hi, rfl, hwr, HE⟩ := hrel
    obtain rfl : W0 = wr := hwr.symm
    by_cases h4 : i + 4 ≤ x.size
    · have hsl := fun (w : World) => run_slice_string (P := Tryz.prog) (w := w) 9 x .i64 .i64 (i : Int) ((i : Int) + 4) Tryz.underlying9 (by omega) (by omega) (by omega)
      obtain ⟨sa, hsa⟩ : ∃ sa, x.extract (Int.toNat (i : Int)) (Int.toNat ((i : Int) + 4)) = sa := ⟨_, rfl⟩
      rw [hsa] at hsl
      have hse : sa.data.toList = (l.drop i).take 4 := by
        rw [← hsa, Lib.extract_data, HXL.out]
        rw [Int.toNat_natCast, show Int.toNat ((i : Int) + 4) = i + 4 from by omega, show i + 4 - i = 4 from by omega]
      have hle : (i : Int) + 4 ≤ x.size := by omega
      clear hsa
      cases hsep : isSepB l i with
      | false =>
        have q1 : (sa.toList == [32, 58, 45, 32]) = false := eqb_false (by rw [hse]; exact of_decide_eq_false hsep)
        have HX := Lib.hid (fun j (e : j = i) => (by rw [e]; exact hsep : isSepB l j = false))
        clear hse hsep
        go_wp2_with fail
        refine ⟨⟨i + 1, by omega, by simp, by trivial, fun j hj => ?_⟩, by simp [intOf]; omega⟩
        rcases Nat.lt_or_ge j i with h | h
        · exact HE.out j h
        · exact HX.out j (by omega)
      | true =>
        have q1 : (sa.toList == [32, 58, 45, 32]) = true := eqb_true (by rw [hse]; exact of_decide_eq_true hsep)
        have hfs := firstSep_some (by rw [HLL.out]; exact h4) hsep HE.out
        have HOK : Hid (pqOk s l = pqOkAt s l i) := by unfold Hid pqOk; rw [hfs]
        have HRES : Hid (pqRes s l = if pqOkAt s l i then pqAt l i else ([], [])) := by unfold Hid pqRes; rw [hfs]
        have HSIZE := Lib.hid (pqAt_size l i (by rw [HLL.out]; exact h4))
        have hex1 : (x.extract 0 i).data.toList = l.take i := by rw [Lib.extract_data, HXL.out]; simp
        have hex2 : (x.extract (i + 4) x.size).data.toList = l.drop (i + 4) := by rw [Lib.extract_to_end, HXL.out]
        have hz1 : (x.extract 0 i).size ≤ 1048576 := by simp; omega
        have hz2 : (x.extract (i + 4) x.size).size ≤ 1048576 := by simp; omega
        have HA := Lib.hid (fun w => sArgs_any (x.extract 0 i) w hz1)
        have HC := Lib.hid (fun w => sCut_any (x.extract (i + 4) x.size) 59 w hz2)
        rw [hex1] at HA
        rw [hex2] at HC
        have hbq : Below W0.heap.size W0 (W0.alloc (.cells #[.slice none 0 0, .slice none 0 0] 28)) := below_alloc _ _
        have HBQ := Lib.hid hbq
        have HSE := Lib.hid hsep
        clear hse hfs hex1 hex2 hz1 hz2 hsep hbq
        by_cases hy : l.take i = [121, 101, 115]
        focus
          have q2 : ((x.extract 0 i).toList == [121, 101, 115]) = true := eqb_true (by rw [Lib.extract_data, HXL.out]; simpa using hy)
          have HHD : Hid ((pqAt l i).1 = []) := by unfold Hid pqAt pqHead; rw [if_pos hy]
          clear hy HA
          go_wp2_with fail
          obtain ⟨W1, hW1⟩ : ∃ W, W = W0.alloc (.cells #[.slice none 0 0, .slice none 0 0] 28) := ⟨_, rfl⟩
          have KQ0 : Hid (W1.cell? ⟨W0.heap.size, 0, none⟩ = some (.slice none 0 0)) := by rw [hW1]; unfold Hid; simp
          have KQ1 : Hid (W1.cell? ⟨W0.heap.size, 1, none⟩ = some (.slice none 0 0)) := by rw [hW1]; unfold Hid; simp
          have KQF : Hid (W1.frozen? ⟨W0.heap.size, 1, none⟩ = false) := by rw [hW1]; unfold Hid; simp
          have HB1 : Hid (Below W0.heap.size W0 W1) := by rw [hW1]; exact HBQ.out
          have HHO : Hid (∃ bh, OInts W1 (.slice none 0 0) (pqAt l i).1 bh ∧ ∀ b ∈ bh, W0.heap.size < b ∧ b < W1.heap.size) := by
            rw [HHD.out]; exact ⟨[], ⟨Ints.nil _, .inl ⟨none, 0, rfl, rfl⟩⟩, fun b hb => by simp at hb⟩
          have HW1S : Hid (W0.heap.size < W1.heap.size) := by rw [hW1]; unfold Hid; simp
          rw [← hW1]
          obtain ⟨vh, hvh⟩ : ∃ v, v = Value.slice none 0 0 := ⟨_, rfl⟩
          rw [← hvh] at KQ0 HHO
          clear hW1 HHD hvh
        rotate_left
        focus
          have q2 : ((x.extract 0 i).toList == [121, 101, 115]) = false := eqb_false (by rw [Lib.extract_data, HXL.out]; simpa using hy)
          have HHD : Hid ((pqAt l i).1 = pargs (l.take i)) := by unfold Hid pqAt pqHead; rw [if_neg hy]
          clear hy
          go_wp2_with fail
          refine (HA.out _).mono ?_
          rintro e w1 ⟨vh, bh, rfl, hoh, hfh, hb⟩
          obtain ⟨va, vm, vc, rfl⟩ := hoh.1.shape
          have kq0 := cellk hb (b := W0.heap.size) (o := 0) (v := .slice none 0 0) (by simp)
          have kq1 := cellk hb (b := W0.heap.size) (o := 1) (v := .slice none 0 0) (by simp)
          have kf0 : w1.frozen? ⟨W0.heap.size, 0, none⟩ = false := frok hb (v := .slice none 0 0) (by simp) (by simp)
          have kf1 : w1.frozen? ⟨W0.heap.size, 1, none⟩ = false := frok hb (v := .slice none 0 0) (by simp) (by simp)
          have HBB := Lib.hid (bnext HBQ.out hb)
          have HOH := Lib.hid hoh
          have HFH := Lib.hid hfh
          have HSZ := Lib.hid hb.size
          clear hb hoh hfh
          go_wp2_with fail
          obtain ⟨W1, hW1⟩ : ∃ W, W = w1.setCell ⟨W0.heap.size, 0, none⟩ (.slice va vm vc) := ⟨_, rfl⟩
          have hszz : W0.heap.size < w1.heap.size := by have := HSZ.out; simp at this; omega
          have KQ0 : Hid (W1.cell? ⟨W0.heap.size, 0, none⟩ = some (.slice va vm vc)) := by rw [hW1]; exact World.cell?_setCell_same _ _ _ kq0
          have KQ1 : Hid (W1.cell? ⟨W0.heap.size, 1, none⟩ = some (.slice none 0 0)) := by rw [hW1, Hid, World.cell?_setCell_other _ _ _ _ (by intro e; cases e)]; exact kq1
          have KQF : Hid (W1.frozen? ⟨W0.heap.size, 1, none⟩ = false) := by rw [hW1, Hid, World.frozen?_setCell]; exact kf1
          have HB1 : Hid (Below W0.heap.size W0 W1) := by rw [hW1]; exact HBB.out.setCell (by simp) _
          have HHO : Hid (∃ bh, OInts W1 (.slice va vm vc) (pqAt l i).1 bh ∧ ∀ b ∈ bh, W0.heap.size < b ∧ b < W1.heap.size) := by
            rw [HHD.out, hW1]
            have hlo : ∀ b ∈ bh, W0.heap.size + 1 ≤ b := fun b hb => by have := (HFH.out.2 b hb).1; simpa using this
            exact ⟨bh, HOH.out.setCell hlo _ _ _ (by omega), fun b hb => ⟨hlo b hb, by simp [World.setCell]; exact (HFH.out.2 b hb).2⟩⟩
          have HW1S : Hid (W0.heap.size < W1.heap.size) := by rw [hW1]; unfold Hid; simp [World.setCell]; exact hszz
          rw [← hW1]
          clear hW1 HHD HOH HFH HSZ HBB kq0 kq1 kf0 kf1 hszz
          obtain ⟨vh, hvh⟩ : ∃ v, v = Value.slice va vm vc := ⟨_, rfl⟩
          rw [← hvh] at KQ0 HHO
          clear hvh HA
        all_goals
          obtain ⟨bh, hoh, hbh⟩ := HHO.out
          have HOH := Lib.hid hoh
          have HBH := Lib.hid hbh
          obtain ⟨va', vm', vc', rfl⟩ := hoh.1.shape
          clear hoh hbh HHO
          refine (HC.out _).mono ?_
          rintro e W2 ⟨v2, rfl, ⟨hst, hnv⟩, hb⟩
          obtain ⟨P, hP⟩ : ∃ P, pqParts l i = P := ⟨_, rfl⟩
          have hst2 : RdStrs W2 v2 ((pqParts l i).map bs) := hst
          rw [hP] at hst2
          obtain ⟨pa, pm, pc, rfl, hpl, hpn, hpm, hpc⟩ := hst2.cases
          unfold maxLen at hpm
          rw [List.length_map] at hpl
          have HPL := Lib.hid hpl
          have HP := Lib.hid hP
          have HPC : Hid (0 < pm → ∃ b off, pa = some ⟨b, off, none⟩ ∧ b ≠ W0.heap.size ∧ ∀ j, j < pm → W2.cell? ⟨b, off + j, none⟩ = some (.string (bs (P.getD j [])))) := by
            intro h0
            obtain ⟨b, off, rfl, hlt, hc⟩ := hpc h0
            refine ⟨b, off, rfl, fun e => ?_, fun j hj => ?_⟩
            · have h5 : W1.heap.size ≤ b := hnv
              have := HW1S.out; omega
            · rw [hc j hj]
              congr 2
              simp [List.getD, List.getElem?_map, List.getElem?_eq_getElem (show j < P.length by omega)]
          have HPZ : Hid (∀ j, (bs (P.getD j [])).size ≤ 1048576) := by
            intro j
            have := part_len l i j
            rw [hP, HLL.out] at this
            rw [bs_size]; omega
          have HB2 := Lib.hid (bnext HB1.out hb)
          have HQ0 : Hid (QInv 43 W0 W2 (.slice va' vm' vc') [] (.slice none 0 0) []) :=
            ⟨BuiltA.nil _ _ _ HB2.out, cellk hb KQ1.out, cellk hb KQ0.out, frok hb KQ1.out KQF.out, fun b hb => by simp [blk] at hb, fun b hb => by simp at hb, Nat.lt_of_lt_of_le HW1S.out hb.size⟩
          have HO2 : Hid (OInts W2 (.slice va' vm' vc') (pqAt l i).1 bh) := HOH.out.below hb
          have HW2S : Hid (W0.heap.size < W2.heap.size) := Nat.lt_of_lt_of_le HW1S.out hb.size
          have hpmz : pm ≤ 1048577 := by
            have h5 := tot_cut 59 (l.drop (i + 4)) []
            have h6 : tot P = tot (cutGo 59 (l.drop (i + 4)) []) := by rw [← hP]; rfl
            have h7 : P.length ≤ tot P := by unfold tot; omega
            rw [List.length_drop] at h5
            simp at h5
            have := HLL.out
            omega
          clear hst hst2 hnv hpl hP hpc hb KQ0 KQ1 KQF HOH HC
          go_wp2_with fail
          go_loopw [9] (fun kv wq => ∃ k : Nat, k ≤ pm ∧ kv = .int .i64 k ∧ ∃ xv bss, Hid (QInv 43 W0 wq (.slice va' vm' vc') (pqAtoms P k) xv bss) ∧ Hid (OnlyAt [W0.heap.size] W2 wq) ∧ Hid (∀ b ∈ blk xv, W2.heap.size ≤ b)) (fun kv _ => pm - (intOf kv).toNat)
          case atStart => exact ⟨0, by omega, rfl, _, _, HQ0, OnlyAt.refl _ _, fun b hb => by simp [blk] at hb⟩
          case round =>
            obtain ⟨k, hk, rfl, xv, bss, HQI, HOA, HXL2⟩ := hrel
            have hqi := HQI.out
            obtain ⟨hba, kx1, kx0, kxf, hx6, hx7, hxs⟩ := hqi
            have HXB : Hid (W0.heap.size ∉ blk xv) := fun hx => (hx6 _ hx).1 rfl
            have HXS := Lib.hid hxs
            have hbq := hba.below
            have HBR := Lib.hid hbq
            clear hx6 hx7 hxs
            by_cases hkl : k < pm
            · obtain ⟨b, off, rfl, hbn, hpc⟩ := HPC.out (by omega)
              have c1 := HOA.out.cell (by simpa using hbn) (hpc k hkl)
              obtain ⟨cs, hc1, hc2⟩ := hba
              have HC1 := Lib.hid hc1
              have HC2 := Lib.hid hc2
              have HNEXT : Hid (pqAtoms P (k + 1) = pqAtoms P k ++ [paRes (pqT k (P.getD k []))]) := rfl
              have hLk := pqAtoms_len P k
              have hzt := HPZ.out k
              have hk0 : (0 : Int) ≤ k := by omega
              have hk1 : (k : Int) < pm := by omega
              have hLb : (pqAtoms P k).length ≤ 1048577 := by omega
              generalize P.getD k [] = T at *
              generalize pqAtoms P k = L at *
              obtain ⟨t, ht⟩ : ∃ t, t = bs T := ⟨_, rfl⟩
              rw [← ht] at c1 hzt
              have htd : t.data.toList = T := by rw [ht]
              have htl : T.length = t.size := by rw [← htd]; simp
              clear ht hpc hbn hc1 hc2 hLk hbq
              rcases (by omega : k = 0 ∨ (0 < k ∧ t.size = 0) ∨ (0 < k ∧ 0 < t.size)) with h0 | ⟨h0, h1⟩ | ⟨h0, h1⟩
              focus
                have HPA : Hid (∀ w, Calls Tryz.prog 16 #[.string t] w (GavePO (paRes (pqT k T)) (paOk (pqT k T)) w)) := by
                  intro w
                  have := sParseAtomO t w hzt
                  rw [htd] at this
                  unfold pqT; rw [if_neg (by omega)]; exact this
                have qk : ¬ ((0 : Int) < k) := by omega
                clear h0
              rotate_left
              focus
                have HPA : Hid (∀ w, Calls Tryz.prog 16 #[.string t] w (GavePO (paRes (pqT k T)) (paOk (pqT k T)) w)) := by
                  intro w
                  have := sParseAtomO t w hzt
                  rw [htd] at this
                  have hT0 : T = [] := List.eq_nil_of_length_eq_zero (by omega)
                  unfold pqT; rw [if_pos h0, hT0]; rw [hT0] at this; exact this
                have qk : (0 : Int) < k := by omega
                have qt : ¬ ((0 : Int) < t.size) := by omega
                clear h0 h1
              rotate_left
              focus
                have HPA : Hid (∀ w, Calls Tryz.prog 16 #[.string (t.extract 1 t.size)] w (GavePO (paRes (pqT k T)) (paOk (pqT k T)) w)) := by
                  intro w
                  have := sParseAtomO (t.extract 1 t.size) w (by simp; omega)
                  rw [Lib.extract_to_end, htd] at this
                  unfold pqT; rw [if_pos h0]; exact this
                have qk : (0 : Int) < k := by omega
                have qt : (0 : Int) < t.size := by omega
                clear h0
              all_goals
                generalize paRes (pqT k T) = d at HPA HNEXT
                generalize paOk (pqT k T) = okd at HPA
                clear htd htl hzt
                go_wp2_with fail
                refine (HPA.out _).mono ?_
                rintro e w2 ⟨v2, bs2, rfl, ⟨ea, en, ec, rfl, hri, ho2⟩, hfr2, hb2⟩
                have hBA := below_alloc w2 (.cells #[.int .i64 d.1, .slice ea en ec] 43)
                have z1 := cellk hb2 kx1
                have z2 := frok hb2 kx1 kxf
                have HGR := Lib.hid ((HC1.out.grow hb2).grow hBA)
                have HBA := Lib.hid hBA
                have HB22 := Lib.hid hb2
                have HRI := Lib.hid hri
                have HO22 := Lib.hid ho2
                have HF22 := Lib.hid hfr2.2
                have hgs := World.block_lt_of_cell? w2 _ z1
                clear hBA hb2 hri ho2 hfr2
                generalize hdr : d.1 = r at *
                have HDR := Lib.hid hdr
                clear hdr
                go_wp2_with (at_builtin; refine wpList_app1D rfl (.tmp 66) (.tmp 68) 26 rfl 43 (.agg #[.int .i64 0, .slice none 0 0]) 2 32 Tryz.underlying26 info_Atom (by decide) (by decide) rfl xv L.length cs rfl HGR.out [.int .i64 r, .slice ea en ec] rfl (by simp [Value.oneCell']) (by simp; rfl) (by omega) ?_)
                intro v' w3 hown' ko hbl
                obtain ⟨sa3, sn3, sc3, rfl⟩ : ∃ a n c, v' = .slice a n c := by
                  rcases hown'.form with ⟨rfl, _⟩ | ⟨g, cap, rfl, _, _⟩
                  · exact ⟨_, _, _, rfl⟩
                  · exact ⟨_, _, _, rfl⟩
                have HNEW := Lib.hid (QInv.step HQI.out HC1.out HC2.out HB22.out HBA.out HO22.out HF22.out HRI.out hown' ko (by simpa using hbl))
                have z3 := ko.cell HXB.out (cellk HBA.out z1)
                have z4 := ko.frozen (o := 1) (Nat.lt_of_lt_of_le hgs HBA.out.size) HXB.out (frok HBA.out z1 z2)
                have hwa : w2.heap.size ≤ w2.heap.size + 1 := Nat.le_succ _
                have hw2 := HB22.out.size
                have hwo := HOA.out.size
                have HOA3 : Hid (OnlyAt [W0.heap.size] W2 w3) := OnlyAt.above ((HOA.out.same (OnlyAt.ofBelow _ HB22.out)).same (OnlyAt.ofBelow _ HBA.out)) ko HXL2.out
                have HXL3 : Hid (∀ b ∈ blk (.slice sa3 sn3 sc3), W2.heap.size ≤ b) := fun b hb => by
                  rcases hbl b hb with h | h
                  · exact HXL2.out b h
                  · omega
                clear hown' ko hbl hwa hw2 hwo
                go_wp2_with fail
                exact ⟨⟨k + 1, by omega, by simp, .slice sa3 sn3 sc3, bss ++ [bs2], by rw [HNEXT.out, show [d] = [(r, d.2)] from by rw [← HDR.out]]; exact HNEW.out, HOA3.out.same (OnlyAt.setCell _ _ _ _), HXL3.out⟩, by simp [intOf]; omega⟩
            · obtain rfl : k = pm := by omega
              have HAT : Hid ((pqAt l i).2 = pqAtoms P k) := by
                unfold Hid pqAt
                show pqAtoms (pqParts l i) (pqParts l i).length = pqAtoms P k
                rw [HP.out, HPL.out]
              have HOW := Lib.hid (HO2.out.onlyAt HOA.out (fun b hb hx => by have := (HBH.out b hb).1; simp at hx; omega))
              obtain ⟨xa, xn, xc, rfl⟩ := HQI.out.slice
              have hrb : w.heap.size + 1 < W0.heap.size := by have := HWS.out; omega
              have HDONE : Hid (∀ w', OnlyAt [w.heap.size + 1] wr w' → RdQuery w' (.agg #[.slice va' vm' vc', .slice xa xn xc]) (pqAt l i)) := by
                intro w' ko
                have h5 := HQI.out.done2 HOW.out (fun b hb => by have := (HBH.out b hb).1; omega) hrb ko
                rw [← HAT.out] at h5
                obtain ⟨h6, a', n', c', e, h7⟩ := h5
                cases e
                exact ⟨_, _, _, _, _, _, rfl, h6, h7⟩
              have HVW := Lib.hid (show RdSchema wr (.agg #[.slice a n c]) s from ⟨_, _, _, rfl, HV.out.below (bnext HBW.out hbq)⟩)
              have HISQ := Lib.hid (sIsQuery_any wr _ _ s (pqAt l i) HVW.out (HDONE.out wr (OnlyAt.refl _ _)) (by have := HSIZE.out; have := HLL.out; omega))
              have ks := cellk hbq KS.out
              have kr0 := cellk hbq KR0.out
              have kr1 := cellk hbq KR1.out
              have kf0 := frok hbq KR0.out KF0.out
              have kf1 := frok hbq KR1.out KF1.out
              clear hba hbq hrb
              cases hfine : fineB s (pqAt l i) 4 with
              | false =>
                have hoka : pqOkAt s l i = false := by unfold pqOkAt; rw [hfine]; rfl
                rw [hoka] at HOK HRES
                rw [hfine] at HISQ
                clear hoka hfine
                go_wp2_with fail
                refine HISQ.out.mono ?_
                rintro e w4 ⟨rfl, hb4⟩
                have HB4 := Lib.hid (bnext HBW.out (bnext HBR.out hb4))
                replace kf0 := frok hb4 kr0 kf0
                replace kf1 := frok hb4 kr1 kf1
                replace kr0 := cellk hb4 kr0
                replace kr1 := cellk hb4 kr1
                clear hb4
                go_wp2_with fail
                exact bodyPost_ret (v := .tuple #[.agg #[.slice none 0 0, .slice none 0 0], .bool false]) (by simp [results, Tryz.results5, go_sem, kr0, kr1]) rfl ⟨_, by rw [HOK.out], by rw [HRES.out]; exact zeroQuery _, (HB4.out.setCell (by simp) _).setCell (by simp) _⟩
              | true =>
                obtain ⟨q, hq1, hq2⟩ : ∃ q : Bool, (fquery (pqAt l i) == x.toList) = q ∧ pqOkAt s l i = q := by
                  refine ⟨_, cmp_l _ _, ?_⟩
                  unfold pqOkAt; rw [hfine, HXL.out]; rfl
                rw [hq2] at HOK HRES
                rw [hfine] at HISQ
                have HFQ := Lib.hid (fun w' k => sFormatQuery_any w' _ (pqAt l i) (HDONE.out w' k))
                generalize fquery (pqAt l i) = FQ at *
                clear hq2 hfine
                cases q
                all_goals
                  go_wp2_with fail
                  refine HISQ.out.mono ?_
                  rintro e w4 ⟨rfl, hb4⟩
                  have HB4 := Lib.hid (bnext HBW.out (bnext HBR.out hb4))
                  have HO4 := Lib.hid (OnlyAt.ofBelow [w.heap.size + 1] hb4)
                  have kx1' := cellk hb4 kx1
                  have kx0' := cellk hb4 kx0
                  replace kf0 := frok hb4 kr0 kf0
                  replace kf1 := frok hb4 kr1 kf1
                  replace kr0 := cellk hb4 kr0
                  replace kr1 := cellk hb4 kr1
                  clear hb4
                  go_wp2_with fail
                  refine (HFQ.out _ HO4.out).mono ?_
                  rintro e w5 ⟨rfl, hb5⟩
                  have HB5 := Lib.hid (bnext HB4.out hb5)
                  have HO5 := Lib.hid (HO4.out.same (OnlyAt.ofBelow _ hb5))
                  have kx1'' := cellk hb5 kx1'
                  have kx0'' := cellk hb5 kx0'
                  replace kf0 := frok hb5 kr0 kf0
                  replace kf1 := frok hb5 kr1 kf1
                  replace kr0 := cellk hb5 kr0
                  replace kr1 := cellk hb5 kr1
                  clear hb5
                  go_wp2_with fail
                · exact bodyPost_ret (v := .tuple #[.agg #[.slice none 0 0, .slice none 0 0], .bool false]) (by simp [results, Tryz.results5, go_sem, kr0, kr1]) rfl ⟨_, by rw [HOK.out], by rw [HRES.out]; exact zeroQuery _, (HB5.out.setCell (by simp) _).setCell (by simp) _⟩
                · exact bodyPost_ret (v := .tuple #[.agg #[.slice va' vm' vc', .slice xa xn xc], .bool true]) (by simp [results, Tryz.results5, go_sem, kr0, kr1]) rfl ⟨_, by rw [HOK.out], by rw [HRES.out]; exact HDONE.out _ ((HO5.out.same (OnlyAt.setCell _ _ _ _)).same (OnlyAt.setCell _ _ _ _)), (HB5.out.setCell (by simp) _).setCell (by simp) _⟩
    · have hno : Hid (firstSep l = none) := firstSep_none (fun j hj => HE.out j (by rw [HLL.out] at hj; omega))
      have HOK : Hid (pqOk s l = false) := by unfold Hid pqOk; rw [hno.out]
      have HRES : Hid (pqRes s l = ([], [])) := by unfold Hid pqRes; rw [hno.out]
      have hle : ¬ ((i : Int) + 4 ≤ x.size) := by omega
      have kr0 := KR0.out
      have kr1 := KR1.out
      have kf0 := KF0.out
      have kf1 := KF1.out
      go_wp2_with fail
      exact bodyPost_ret (v := .tuple #[.agg #[.slice none 0 0, .slice none 0 0], .bool false]) (by simp [results, Tryz.results5, go_sem, kr0, kr1]) rfl ⟨_, by rw [HOK.out], by rw [HRES.out]; exact zeroQuery _, (HBW.out.setCell (by simp) _).setCell (by simp) _⟩
theorem sizeAtomS_le3 {l : List AtomD} (h : ∀ x ∈ l, x.2.length ≤ 3) : sizeAtomS l ≤ 4 * l.length := by
  induction l with
  | nil => simp [sizeAtomS, sumArgs]
  | cons a l ih =>
    have h1 := ih (fun x hx => h x (by simp [hx]))
    have h2 := h a (by simp)
    unfold sizeAtomS sumArgs at h1 ⊢
    simp only [List.length_cons, List.map_cons, List.sum_cons]
    omega
theorem fine_small {s : List Int} {d : QueryD} (h : fineB s d 4 = true) : d.1.length ≤ 3 ∧ d.2.length ≤ 4 ∧ ∀ x ∈ d.2, x.2.length ≤ 3 := by
  unfold fineB at h
  simp only [Bool.and_eq_true, List.all_eq_true] at h
  obtain ⟨_, h1, h2, h3, _⟩ := h
  unfold termsB at h1
  rw [Bool.and_eq_true] at h1
  have h4 := of_decide_eq_true h2
  refine ⟨of_decide_eq_true h1.2, by omega, fun x hx => ?_⟩
  have h5 := h3 x hx
  unfold isAtomB termsB at h5
  simp only [Bool.and_eq_true] at h5
  exact of_decide_eq_true h5.2.2
theorem pqRes_m (s : List Int) (l : List UInt8) : mQuery (pqRes s l) ≤ 1048576 := by
  unfold pqRes
  split
  · simp [mQuery, mAtomS]
  · split
    · rename_i h
      unfold pqOkAt at h
      rw [Bool.and_eq_true] at h
      obtain ⟨h1, h2, h3⟩ := fine_small h.1
      have := sizeAtomS_le3 h3
      unfold mQuery
      rw [mAtomS_size]
      omega
    · simp [mQuery, mAtomS]
end Go.Proofs.YtchcifikopmfoaaGreatDoor
