/- Contract of chapter 5's spec: ParseFact. -/
import Derived.Test.YtchcifikopmfoaaDoorSffact
import Derived.Test.YtchcifikopmfoaaDoorScut
import Derived.Test.YtchcifikopmfoaaDoorQInv
import Derived.Test.YtchcifikopmfoaaDoorPspec
import Derived.Test.YtchcifikopmfoaaDoorSpatom
import Derived.Laws.Strings2
namespace Go.Proofs.YtchcifikopmfoaaDoor
open Go Go.Sort Go.RowKit
set_option linter.unusedVariables false

def pint1 (p : List UInt8) : Int := if sOk p then sRes p else -1
def pfRel (l : List UInt8) : List UInt8 := (l.drop 1).take 1
def pfMid (l : List UInt8) : List UInt8 := (l.take (l.length - 1)).drop 3
def pfVal (l : List UInt8) : Int × List Int := (sRes (pfRel l), (cutL 44 (pfMid l)).map pint1)
def pfOk (s : List Int) (l : List UInt8) : Bool := decide (5 ≤ l.length) && (sOk (pfRel l) && (isFactB s (pfVal l).1 (pfVal l).2 && decide (ffact (pfVal l).1 (pfVal l).2 = l)))
def pfRes (s : List Int) (l : List UInt8) : Int × List Int := if pfOk s l then pfVal l else (0, [])
theorem pint1_inI (p : List UInt8) : inI (pint1 p) := by
  have := sRes_bd p
  unfold pint1 inI
  split <;> omega
theorem pf_no {s : List Int} {l : List UInt8} (h : pfOk s l = false) : pfRes s l = (0, []) := by unfold pfRes; rw [h]; rfl
theorem pf_yes {s : List Int} {l : List UInt8} (h : pfOk s l = true) : pfRes s l = pfVal l := by unfold pfRes; rw [h]; rfl

theorem pfRes_m (s : List Int) (l : List UInt8) : mAtom (pfRes s l) ≤ 1048576 := by
  unfold mAtom pfRes
  split
  · rename_i h
    unfold pfOk at h
    rw [Bool.and_eq_true, Bool.and_eq_true, Bool.and_eq_true] at h
    have := fact_len h.2.2.1
    omega
  · simp

/-- A struct of a number and a list of numbers in the block behind W's, the list being built. -/
def FInv (E : TypeId) (W w : World) (r : Int) (xv : Value) (l : List Int) : Prop :=
  Built .i64 E W w xv l ∧ w.cell? ⟨W.heap.size, 0, none⟩ = some (.int .i64 r) ∧ w.cell? ⟨W.heap.size, 1, none⟩ = some xv ∧ w.frozen? ⟨W.heap.size, 1, none⟩ = false ∧ (∀ b ∈ blk xv, b ≠ W.heap.size) ∧ W.heap.size < w.heap.size
theorem FInv.grow {E : TypeId} {W w w' : World} {r : Int} {xv : Value} {l : List Int} (h : FInv E W w r xv l) (hb : Below w.heap.size w w') : FInv E W w' r xv l := by
  obtain ⟨h1, h2, h3, h4, h5, h6⟩ := h
  exact ⟨h1.grow hb, cellk hb h2, cellk hb h3, frok hb h3 h4, h5, Nat.lt_of_lt_of_le h6 hb.size⟩
theorem FInv.step {E : TypeId} {W w w3 : World} {r : Int} {xv v' : Value} {l : List Int} {x : Int} (h : FInv E W w r xv l)
    (h' : BuiltC E 1 W w3 v' (l.length + 1) (l.map (Value.int .i64) ++ [.int .i64 x])) (ko : OnlyAt (blk xv) w w3) (hv' : ∀ b ∈ blk v', b ∈ blk xv ∨ w.heap.size ≤ b) :
    FInv E W (w3.setCell ⟨W.heap.size, 1, none⟩ v') r v' (l ++ [x]) := by
  obtain ⟨h1, h2, h3, h4, h5, h6⟩ := h
  have hxb : W.heap.size ∉ blk xv := fun hx => h5 _ hx rfl
  have k2 := ko.cell hxb h2
  have k3 := ko.cell hxb h3
  have k4 := ko.frozen (o := 1) h6 hxb h4
  have hs3 := ko.size
  have hnb : ∀ b ∈ blk v', b ≠ W.heap.size := fun b hb e => by
    rcases hv' b hb with h | h
    · exact h5 b h e
    · omega
  have hB := Built.ofC h'
  have kst := OnlyAt.setCell w3 W.heap.size 1 v'
  refine ⟨⟨⟨hB.1.1, ?_⟩, OnlyAt.below hB.2 kst (fun x hx => by simp at hx; omega)⟩, ?_, World.cell?_setCell_same _ _ _ k3, by rw [World.frozen?_setCell]; exact k4, hnb, by simp [World.setCell]; omega⟩
  · rcases hB.1.2 with h4 | ⟨g, cap, cur, rfl, h4, hg, h5⟩
    · exact .inl h4
    · have hlt : g < w3.heap.size := by
        rcases Nat.lt_or_ge g w3.heap.size with h6 | h6
        · exact h6
        · rw [Array.getElem?_eq_none h6] at hg; cases hg
      exact .inr ⟨g, cap, cur, rfl, h4, by rw [kst.block g hlt (fun hm => hnb g (by simp [blk]) (by simpa using hm))]; exact hg, h5⟩
  · rw [World.cell?_setCell_other _ _ _ _ (by intro e; cases e)]; exact k2

def GavePF (s : List Int) (l : List UInt8) (w : World) (e : Ending) (w' : World) : Prop := ∃ r0, e = .returned (.tuple #[r0, .bool (pfOk s l)]) ∧ RdAtom w' r0 (pfRes s l) ∧ Below w.heap.size w w'
set_option maxRecDepth 100000 in
set_option maxHeartbeats 16000000 in
theorem sParseFact_any (w : World) (vs : Value) (s : List Int) (x : ByteArray) (hvs : RdSchema w vs s) (hs : x.size ≤ 1048576) :
    Calls Tryd.prog 28 #[vs, .string x] w (GavePF s x.data.toList w) := by
  have hll : x.data.toList.length = x.size := by simp
  obtain ⟨sa0, sn, sc, rfl, hs2⟩ := hvs
  have HSC := Lib.hid hs2
  have hb0 : ∀ o p, Below w.heap.size w ((w.alloc o).alloc p) := fun o p => ((Below.refl _ _).alloc (Nat.le_refl _) _).alloc (by simp) _
  have HB0 := Lib.hid hb0
  have HNO : Hid (pfOk s x.data.toList = false → ∀ w', Below w.heap.size w w' → GavePF s x.data.toList w (.returned (.tuple #[.agg #[.int .i64 0, .slice none 0 0], .bool false])) w') := fun h w' hb =>
    ⟨_, by rw [h], by rw [pf_no h]; exact zeroAtom _, hb⟩
  by_cases h5 : x.size < 5
  · have HN := Lib.hid (HNO.out (by unfold pfOk; rw [decide_eq_false (by omega)]; rfl))
    have q5 : ((x.size : Nat) : Int) < 5 := by omega
    clear HNO h5 hll hb0 hs2
    go_enter Tryd.func28, Tryd.ntmps28
    go_wp2_with fail
    exact bodyPost_ret (v := .tuple #[.agg #[.int .i64 0, .slice none 0 0], .bool false]) (by simp [results, Tryd.results28, go_sem]) rfl (HN.out _ (HB0.out _ _))
  · have q5 : ¬ (((x.size : Nat) : Int) < 5) := by omega
    have hsl1 := fun (w : World) => run_slice_string (P := Tryd.prog) (w := w) 9 x .i64 .i64 1 2 Tryd.underlying9 (by omega) (by omega) (by omega)
    have hsl2 := fun (w : World) => run_slice_string (P := Tryd.prog) (w := w) 9 x .i64 .i64 3 ((x.size : Int) - 1) Tryd.underlying9 (by omega) (by omega) (by omega)
    have e2 : ((x.size : Int) - 1).toNat = x.size - 1 := by omega
    rw [e2] at hsl2
    obtain ⟨sa, hsa⟩ : ∃ sa, x.extract (Int.toNat 1) (Int.toNat 2) = sa := ⟨_, rfl⟩
    obtain ⟨sb, hsb⟩ : ∃ sb, x.extract (Int.toNat 3) (x.size - 1) = sb := ⟨_, rfl⟩
    rw [hsa] at hsl1
    rw [hsb] at hsl2
    have hra : sa.data.toList = pfRel x.data.toList := by rw [← hsa, Lib.extract_data]; rfl
    have hrb : sb.data.toList = pfMid x.data.toList := by
      rw [← hsb, Lib.extract_data]
      unfold pfMid
      rw [hll, List.drop_take]
      rfl
    have hza : sa.size ≤ 1048576 := by rw [← hsa]; simp; omega
    have hzb : sb.size ≤ 1048576 := by rw [← hsb]; simp; omega
    have hzbl : sb.data.toList.length = sb.size := by simp
    have hP := Lib.hid (fun w => sParseInt_any sa w hza)
    have hcut := Lib.hid (fun w => sCut_any sb 44 w hzb)
    have hpi := Lib.hid (fun p (h : (bs p).size ≤ 1048576) w => sParseInt_any (bs p) w h)
    have hrbd := sRes_bd sa.data.toList
    have hlen := cutGo_len 44 sb.data.toList []
    have hmem : Hid (∀ y ∈ cutL 44 sb.data.toList, (bs y).size ≤ 1048576) := fun y hy => by
      rw [bs_size]
      have := cutGo_mem 44 sb.data.toList [] y hy
      simp at this; omega
    have hL1 : (cutL 44 sb.data.toList).length ≤ 1048577 := by unfold cutL; omega
    have HV : Hid (pfVal x.data.toList = (sRes sa.data.toList, (cutL 44 sb.data.toList).map pint1)) := by unfold Hid pfVal; rw [hra, hrb]
    have HOKE : Hid (pfOk s x.data.toList = (sOk sa.data.toList && (isFactB s (sRes sa.data.toList) ((cutL 44 sb.data.toList).map pint1) && decide (ffact (sRes sa.data.toList) ((cutL 44 sb.data.toList).map pint1) = x.data.toList)))) := by
      have h1 := HV.out
      unfold Hid pfOk; rw [decide_eq_true (by omega : 5 ≤ x.data.toList.length), h1, hra]; rfl
    have HYES : Hid (pfOk s x.data.toList = true → ∀ r0 w', RdAtom w' r0 (sRes sa.data.toList, (cutL 44 sb.data.toList).map pint1) → Below w.heap.size w w' → GavePF s x.data.toList w (.returned (.tuple #[r0, .bool true])) w') := fun h r0 w' h1 h2 =>
      ⟨r0, by rw [h], by rw [pf_yes h, HV.out]; exact h1, h2⟩
    have hrI : inI (sRes sa.data.toList) := by unfold inI; omega
    have HRI := Lib.hid hrI
    generalize sRes sa.data.toList = R at *
    generalize hk1 : sOk sa.data.toList = k1 at *
    generalize cutL 44 sb.data.toList = C at *
    generalize hxl : x.data.toList = XL at *
    have HIM : Hid (∀ y ∈ C.map pint1, inI y) := fun y hy => by obtain ⟨p, _, rfl⟩ := List.mem_map.1 hy; exact pint1_inI p
    have hFm := Lib.hid (fun w v h => sFormatFact_any w R v (C.map pint1) hrI h)
    have hFc := Lib.hid (fun w v h h' => sIsFact_any w R (.slice sa0 sn sc) v s (C.map pint1) h h')
    obtain ⟨k2, hk2⟩ : ∃ q, isFactB s R (C.map pint1) = q := ⟨_, rfl⟩
    obtain ⟨k3, hk3, hk4⟩ : ∃ q : Bool, (ffact R (C.map pint1) == x.toList) = q ∧ decide (ffact R (C.map pint1) = XL) = q := ⟨_, by rw [← hxl]; exact cmp_l _ _, rfl⟩
    rw [hk2] at hFc
    have HOK : Hid (pfOk s XL = (k1 && (k2 && k3))) := by unfold Hid; rw [HOKE.out, hk2, hk4]
    generalize ffact R (C.map pint1) = FF at *
    clear hra hrb hsa hsb hll e2 hlen hza hzb hzbl HV HOKE hb0 hs2 hrbd hk1 hk2 hk4 hxl hrI h5
    go_enter Tryd.func28, Tryd.ntmps28
    go_wp2_with fail
    refine (hP.out _).mono ?_
    rintro e w1 ⟨rfl, hb⟩
    have HB1 := Lib.hid (bnext (HB0.out _ _) hb)
    have ks := cellk hb (b := w.heap.size) (o := 0) (v := .slice sa0 sn sc) (by simp)
    have kr0 := cellk hb (b := w.heap.size + 1) (o := 0) (v := .int .i64 0) (by simp)
    have kr1 := cellk hb (b := w.heap.size + 1) (o := 1) (v := .slice none 0 0) (by simp)
    have kf0 : w1.frozen? ⟨w.heap.size + 1, 0, none⟩ = false := frok hb (v := .int .i64 0) (by simp) (by simp)
    have kf1 : w1.frozen? ⟨w.heap.size + 1, 1, none⟩ = false := frok hb (v := .slice none 0 0) (by simp) (by simp)
    have hlt1 := World.block_lt_of_cell? w1 _ kr0
    have HLT1 := Lib.hid hlt1
    clear hb
    go_wp2_with fail
    have hal := below_alloc w1 (.cells #[.int .i64 R, .slice none 0 0] 49)
    have HFI0 : Hid (FInv 3 w1 (w1.alloc (.cells #[.int .i64 R, .slice none 0 0] 49)) R (.slice none 0 0) []) :=
      ⟨BuiltC.nil _ _ _ _ hal, by simp, by simp, by simp, fun b hb => by simp [blk] at hb, by simp⟩
    refine (hcut.out _).mono ?_
    rintro e w2 ⟨v, rfl, ⟨hr, hnv⟩, hb⟩
    obtain ⟨a, n, cap, rfl, hl, hn, hm, hcell⟩ := hr.cases
    have HNB : Hid (∀ b off, a = some ⟨b, off, none⟩ → b ∉ [w1.heap.size]) := by
      rintro b off rfl hm
      have h5 : (w1.alloc (.cells #[.int .i64 R, .slice none 0 0] 49)).heap.size ≤ b := hnv
      simp at h5 hm
      omega
    rw [List.length_map] at hl
    have hn5 : n ≤ 1048577 := by omega
    have hbl := bnext hal hb
    have HFI := Lib.hid (HFI0.out.grow hb)
    have KS := Lib.hid (cellk hbl ks)
    have KR0 := Lib.hid (cellk hbl kr0)
    have KR1 := Lib.hid (cellk hbl kr1)
    have KF0 := Lib.hid (frok hbl kr0 kf0)
    have KF1 := Lib.hid (frok hbl kr1 kf1)
    have HC := Lib.hid hcell
    have HL := Lib.hid hl
    have HBL := Lib.hid hbl
    unfold maxLen at hm
    clear hb hr hcell hl hnv hal hbl ks kr0 kr1 kf0 kf1 HFI0 hsl1 hsl2 hlt1
    go_wp2_with fail
    go_loopw [10] (fun iv wr => ∃ i : Nat, i ≤ n ∧ iv = .int .i64 i ∧ ∃ xv, Hid (FInv 3 w1 wr R xv ((C.take i).map pint1)) ∧ Hid (OnlyAt [w1.heap.size] w2 wr) ∧ Hid (∀ b ∈ blk xv, w2.heap.size ≤ b)) (fun iv _ => n - (intOf iv).toNat)
    case atStart => exact ⟨0, by omega, rfl, _, by simpa using HFI, OnlyAt.refl _ _, fun b hb => by simp [blk] at hb⟩
    case round =>
      obtain ⟨i, hi, rfl, xv, HX, HOA, HBX⟩ := hrel
      by_cases hlt : i < n
      · obtain ⟨b, off, rfl, _, hc⟩ := HC.out (by omega)
        have hiC : i < C.length := by rw [HL.out]; exact hlt
        have c1 := HOA.out.cell (HNB.out b off rfl) (hc i hlt)
        have e1 : (C.map bs).getD i ByteArray.empty = bs C[i] := by simp [List.getD, List.getElem?_eq_getElem hiC]
        rw [e1] at c1
        have hpi1 : Hid (∀ w, Calls Tryd.prog 44 #[.string (bs C[i])] w fun e w' => e = .returned (.tuple #[.int .i64 (sRes C[i]), .bool (sOk C[i])]) ∧ Below w.heap.size w w') := hpi.out C[i] (hmem.out _ (List.getElem_mem hiC))
        have HS := Lib.hid (map_take_snoc pint1 C i hiC)
        have hi0 : (0 : Int) ≤ i := by omega
        have hi1 : (i : Int) < n := by omega
        have hlenT : ((C.take i).map pint1).length ≤ i := by simp; omega
        generalize (C.take i).map pint1 = L at *
        generalize C[i] = p at *
        have HPV : Hid (∀ q, sOk p = q → pint1 p = if q then sRes p else -1) := fun q h => by unfold pint1; rw [h]
        clear hc hiC e1
        cases hq : sOk p
        · skip
          have HPW := Lib.hid (HPV.out false hq)
          rw [hq] at hpi1
          clear HPV hq
          have HVAL : Hid (pint1 p = -1) := HPW.out
          clear HPW
          go_wp2_with fail
          refine (hpi1.out _).mono ?_
          rintro e w3 ⟨rfl, hb⟩
          have HX3 := Lib.hid (HX.out.grow hb)
          have HOA3 := Lib.hid (HOA.out.same (OnlyAt.ofBelow _ hb))
          have kx := HX3.out.2.2.1
          clear hb c1
          go_wp2_with (at_builtin; refine wpList_app1D rfl (.tmp 48) (.tmp 50) 22 rfl 3 (.int .i64 0) 1 8 Tryd.underlying22 info_int (by decide) (by decide) (by rfl) xv L.length (L.map (Value.int .i64)) rfl HX3.out.1 [.int .i64 (-1)] rfl (by simp [Value.oneCell']) (by first | rfl | (simp; rfl)) (by omega) ?_)
          intro v' w4 hown' ko hbl
          have hxb : w1.heap.size ∉ blk xv := fun hx => HX3.out.2.2.2.2.1 _ hx rfl
          have z1 := ko.cell hxb kx
          have z2 := ko.frozen (o := 1) HX3.out.2.2.2.2.2 hxb HX3.out.2.2.2.1
          have HNEW := Lib.hid (FInv.step HX3.out hown' ko hbl)
          have HOA4 := Lib.hid ((OnlyAt.above HOA3.out ko HBX.out).same (OnlyAt.setCell w4 w1.heap.size 1 v'))
          have HBX4 : Hid (∀ b ∈ blk v', w2.heap.size ≤ b) := fun b hb => by
            rcases hbl b hb with h | h
            · exact HBX.out b h
            · exact Nat.le_trans HOA3.out.size h
          obtain ⟨g, cp, rfl⟩ : ∃ g cp, v' = .slice (some ⟨g, 0, none⟩) (L.length + 1) cp := by
            rcases hown'.form with ⟨_, h0⟩ | ⟨g, cp, h, _⟩
            · omega
            · exact ⟨g, cp, h⟩
          clear hown' ko hbl kx hxb
          go_wp2_with fail
          exact ⟨⟨i + 1, by omega, by simp, _, by rw [HS.out, HVAL.out]; exact HNEW, HOA4, HBX4⟩, by simp [intOf]; omega⟩
        · skip
          have HPW := Lib.hid (HPV.out true hq)
          rw [hq] at hpi1
          clear HPV hq
          have HVAL : Hid (pint1 p = sRes p) := HPW.out
          clear HPW
          generalize sRes p = y at *
          go_wp2_with fail
          refine (hpi1.out _).mono ?_
          rintro e w3 ⟨rfl, hb⟩
          have HX3 := Lib.hid (HX.out.grow hb)
          have HOA3 := Lib.hid (HOA.out.same (OnlyAt.ofBelow _ hb))
          have kx := HX3.out.2.2.1
          clear hb c1
          go_wp2_with (at_builtin; refine wpList_app1D rfl (.tmp 48) (.tmp 50) 22 rfl 3 (.int .i64 0) 1 8 Tryd.underlying22 info_int (by decide) (by decide) (by rfl) xv L.length (L.map (Value.int .i64)) rfl HX3.out.1 [.int .i64 y] rfl (by simp [Value.oneCell']) (by first | rfl | (simp; rfl)) (by omega) ?_)
          intro v' w4 hown' ko hbl
          have hxb : w1.heap.size ∉ blk xv := fun hx => HX3.out.2.2.2.2.1 _ hx rfl
          have z1 := ko.cell hxb kx
          have z2 := ko.frozen (o := 1) HX3.out.2.2.2.2.2 hxb HX3.out.2.2.2.1
          have HNEW := Lib.hid (FInv.step HX3.out hown' ko hbl)
          have HOA4 := Lib.hid ((OnlyAt.above HOA3.out ko HBX.out).same (OnlyAt.setCell w4 w1.heap.size 1 v'))
          have HBX4 : Hid (∀ b ∈ blk v', w2.heap.size ≤ b) := fun b hb => by
            rcases hbl b hb with h | h
            · exact HBX.out b h
            · exact Nat.le_trans HOA3.out.size h
          obtain ⟨g, cp, rfl⟩ : ∃ g cp, v' = .slice (some ⟨g, 0, none⟩) (L.length + 1) cp := by
            rcases hown'.form with ⟨_, h0⟩ | ⟨g, cp, h, _⟩
            · omega
            · exact ⟨g, cp, h⟩
          clear hown' ko hbl kx hxb
          go_wp2_with fail
          exact ⟨⟨i + 1, by omega, by simp, _, by rw [HS.out, HVAL.out]; exact HNEW, HOA4, HBX4⟩, by simp [intOf]; omega⟩
      · obtain rfl : i = n := by omega
        have hT : (C.take i).map pint1 = C.map pint1 := by rw [List.take_of_length_le (by rw [HL.out]; exact Nat.le_refl _)]
        rw [hT] at HX
        have hfi := HX.out
        obtain ⟨f1, f2, f3, f4, f5, f6⟩ := hfi
        have HRD := Lib.hid (Ints.ofBuilt f1 HIM.out)
        obtain ⟨xa, xn, xc, rfl⟩ := HRD.out.shape
        have HW := Lib.hid (bnext HB1.out f1.2)
        have hnr : ∀ g, g < w1.heap.size → g ∉ [w1.heap.size] := fun g hg hm => by simp at hm; omega
        have hlt1 := HLT1.out
        have ks := HOA.out.cell (hnr _ (by omega)) KS.out
        have kr0 := HOA.out.cell (hnr _ hlt1) KR0.out
        have kr1 := HOA.out.cell (hnr _ hlt1) KR1.out
        have kf0 := HOA.out.frozen (hlt := World.block_lt_of_cell? w2 _ KR0.out) (hnr _ hlt1) KF0.out
        have kf1 := HOA.out.frozen (hlt := World.block_lt_of_cell? w2 _ KR1.out) (hnr _ hlt1) KF1.out
        clear hT f1 f4 f5 f6 hnr
        have hcase : k1 = false ∨ (k1 = true ∧ k2 = false) ∨ (k1 = true ∧ k2 = true ∧ k3 = false) ∨ (k1 = true ∧ k2 = true ∧ k3 = true) := by
          cases k1 <;> cases k2 <;> cases k3 <;> simp
        rcases hcase with rfl | ⟨rfl, rfl⟩ | ⟨rfl, rfl, rfl⟩ | ⟨rfl, rfl, rfl⟩
        · skip
          have HN := Lib.hid (HNO.out (by rw [HOK.out]; rfl))
          clear HNO HYES HOK
          clear hk3
          go_wp2_with fail
          exact bodyPost_ret (v := .tuple #[.agg #[.int .i64 0, .slice none 0 0], .bool false]) (by simp [results, Tryd.results28, go_sem, kr0, kr1]) rfl (HN.out _ ((HW.out.setCell (by simp) _).setCell (by simp) _))
        · skip
          have HN := Lib.hid (HNO.out (by rw [HOK.out]; rfl))
          clear HNO HYES HOK
          clear hk3
          go_wp2_with fail
          refine (hFc.out _ _ (HSC.out.below HW.out) HRD.out).mono ?_
          rintro e w5 ⟨rfl, hb⟩
          have HW5 := Lib.hid (bnext HW.out hb)
          have HRD5 := Lib.hid (HRD.out.below hb)
          replace f2 := cellk hb f2
          replace f3 := cellk hb f3
          replace kf0 := frok hb kr0 kf0
          replace kf1 := frok hb kr1 kf1
          replace kr0 := cellk hb kr0
          replace kr1 := cellk hb kr1
          clear hb ks
          go_wp2_with fail
          exact bodyPost_ret (v := .tuple #[.agg #[.int .i64 0, .slice none 0 0], .bool false]) (by simp [results, Tryd.results28, go_sem, kr0, kr1]) rfl (HN.out _ ((HW5.out.setCell (by simp) _).setCell (by simp) _))
        · skip
          have HN := Lib.hid (HNO.out (by rw [HOK.out]; rfl))
          clear HNO HYES HOK
          go_wp2_with fail
          refine (hFc.out _ _ (HSC.out.below HW.out) HRD.out).mono ?_
          rintro e w5 ⟨rfl, hb⟩
          have HW5 := Lib.hid (bnext HW.out hb)
          have HRD5 := Lib.hid (HRD.out.below hb)
          replace f2 := cellk hb f2
          replace f3 := cellk hb f3
          replace kf0 := frok hb kr0 kf0
          replace kf1 := frok hb kr1 kf1
          replace kr0 := cellk hb kr0
          replace kr1 := cellk hb kr1
          clear hb ks
          go_wp2_with fail
          refine (hFm.out _ _ HRD5.out).mono ?_
          rintro e w6 ⟨rfl, hb⟩
          have HW6 := Lib.hid (bnext HW5.out hb)
          have HRD6 := Lib.hid (HRD5.out.below hb)
          replace f2 := cellk hb f2
          replace f3 := cellk hb f3
          replace kf0 := frok hb kr0 kf0
          replace kf1 := frok hb kr1 kf1
          replace kr0 := cellk hb kr0
          replace kr1 := cellk hb kr1
          clear hb
          go_wp2_with fail
          exact bodyPost_ret (v := .tuple #[.agg #[.int .i64 0, .slice none 0 0], .bool false]) (by simp [results, Tryd.results28, go_sem, kr0, kr1]) rfl (HN.out _ ((HW6.out.setCell (by simp) _).setCell (by simp) _))
        · skip
          have HY := Lib.hid (HYES.out (by rw [HOK.out]; rfl))
          clear HNO HYES HOK
          go_wp2_with fail
          refine (hFc.out _ _ (HSC.out.below HW.out) HRD.out).mono ?_
          rintro e w5 ⟨rfl, hb⟩
          have HW5 := Lib.hid (bnext HW.out hb)
          have HRD5 := Lib.hid (HRD.out.below hb)
          replace f2 := cellk hb f2
          replace f3 := cellk hb f3
          replace kf0 := frok hb kr0 kf0
          replace kf1 := frok hb kr1 kf1
          replace kr0 := cellk hb kr0
          replace kr1 := cellk hb kr1
          clear hb ks
          go_wp2_with fail
          refine (hFm.out _ _ HRD5.out).mono ?_
          rintro e w6 ⟨rfl, hb⟩
          have HW6 := Lib.hid (bnext HW5.out hb)
          have HRD6 := Lib.hid (HRD5.out.below hb)
          replace f2 := cellk hb f2
          replace f3 := cellk hb f3
          replace kf0 := frok hb kr0 kf0
          replace kf1 := frok hb kr1 kf1
          replace kr0 := cellk hb kr0
          replace kr1 := cellk hb kr1
          clear hb
          go_wp2_with fail
          have hk : OnlyAt [w.heap.size + 1] w6 ((w6.setCell ⟨w.heap.size + 1, 0, none⟩ (.int .i64 R)).setCell ⟨w.heap.size + 1, 1, none⟩ (.slice xa xn xc)) := (OnlyAt.setCell _ _ _ _).same (OnlyAt.setCell _ _ _ _)
          refine bodyPost_ret (v := .tuple #[.agg #[.int .i64 R, .slice xa xn xc], .bool true]) (by simp [results, Tryd.results28, go_sem, kr0, kr1]) rfl (HY.out _ _ ⟨xa, xn, xc, rfl, HRI.out, HRD6.out.onlyAt hk ?_⟩ ((HW6.out.setCell (by simp) _).setCell (by simp) _))
          intro b off m c0 hbv hm hin
          have h7 := HX.out.1.1.lt b (by rw [hbv]; rfl)
          simp at hin
          omega
end Go.Proofs.YtchcifikopmfoaaDoor
