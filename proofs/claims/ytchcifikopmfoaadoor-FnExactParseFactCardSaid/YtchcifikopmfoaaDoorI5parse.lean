/- Contracts of chapter 5's program: readFact, ParseFact. -/
import Derived.Test.YtchcifikopmfoaaDoorPfmath
import Derived.Test.YtchcifikopmfoaaDoorIpatom
import Derived.Test.YtchcifikopmfoaaDoorI5fact
namespace Go.Proofs.YtchcifikopmfoaaDoor
open Go Go.Sort Go.RowKit
set_option linter.unusedVariables false

def ssOf (q : List (List UInt8)) (i : Nat) : List Int := (q.take i).map sRes ++ List.replicate (q.length - i) 0
theorem ssOf_len (q : List (List UInt8)) (i : Nat) (h : i ≤ q.length) : (ssOf q i).length = q.length := by unfold ssOf; simp; omega
theorem ssOf_set (q : List (List UInt8)) (i : Nat) (h : i < q.length) : (ssOf q i).set i (sRes (q.getD i [])) = ssOf q (i + 1) := by
  unfold ssOf
  have hg : q.getD i [] = q[i] := by simp [List.getD, List.getElem?_eq_getElem h]
  rw [List.set_append_right _ _ (by simp; omega), List.length_map, List.length_take, Nat.min_eq_left (by omega), Nat.sub_self, hg, show q.length - i = (q.length - (i + 1)) + 1 from by omega, List.replicate_succ, List.set_cons_zero, List.take_succ_eq_append_getElem h, List.map_append, List.append_assoc]
  rfl
theorem ssOf_all (q : List (List UInt8)) : ssOf q q.length = q.map sRes := by unfold ssOf; simp
theorem ssOf_zero (q : List (List UInt8)) : ssOf q 0 = List.replicate q.length 0 := by unfold ssOf; simp
theorem sRes_inI (p : List UInt8) : inI (sRes p) := by have := sRes_bd p; unfold inI; omega

def rfRes (s : List UInt8) : Int × List Int := if rfOk s then rfVal s else (0, [])
def GaveRF (s : List UInt8) (w : World) (e : Ending) (w' : World) : Prop := ∃ v bs, e = .returned (.tuple #[v, .bool (rfOk s)]) ∧ ROAtom w' v (rfRes s) bs ∧ Fresh w w' bs ∧ Below w.heap.size w w'
set_option maxRecDepth 100000 in
set_option maxHeartbeats 8000000 in
theorem iReadFact_any (s : ByteArray) (w : World) (hs : s.size ≤ 1048576) (he : EnvS w) :
    Calls Tryd.prog 60 #[.string s] w (GaveRF s.data.toList w) := by
  have hb0 : Below w.heap.size w (w.alloc (.cells #[.int .i64 0, .slice none 0 0] 49)) := (Below.refl _ _).alloc (Nat.le_refl _) _
  have HB0 := Lib.hid hb0
  have H := Lib.hid (iSplit_any s _ hs (he.below hb0))
  have HE0 := Lib.hid (he.below hb0)
  have HNO : Hid (rfOk s.data.toList = false → ∀ w0 w', Below w0.heap.size w0 w' → GaveRF s.data.toList w0 (.returned (.tuple #[.agg #[.int .i64 0, .slice none 0 0], .bool false])) w') := by
    intro hx w0 w' hb
    refine ⟨_, [], by rw [hx], ?_, freshNil _ _, hb⟩
    unfold rfRes; rw [hx]; exact zeroAtomO _
  unfold GaveSplit at H
  cases hok : rOk0 s.data.toList with
  | false =>
    have HN := Lib.hid (HNO.out (by unfold rfOk; rw [hok]; rfl))
    rw [hok] at H
    clear he hb0 hs hok HNO
    generalize saRel s.data.toList = R at *
    generalize saList s.data.toList = LL at *
    generalize s.data.toList = S at *
    go_enter Tryd.func60, Tryd.ntmps60
    go_wp2_with fail
    refine H.out.mono ?_
    rintro e w4 ⟨rfl, hb⟩
    have HB4 := Lib.hid (bnext HB0.out hb)
    have kr0 := cellk hb (b := w.heap.size) (o := 0) (v := .int .i64 0) (by simp)
    have kr1 := cellk hb (b := w.heap.size) (o := 1) (v := .slice none 0 0) (by simp)
    have kf0 : w4.frozen? ⟨w.heap.size, 0, none⟩ = false := frok hb (v := .int .i64 0) (by simp) (by simp)
    have kf1 : w4.frozen? ⟨w.heap.size, 1, none⟩ = false := frok hb (v := .slice none 0 0) (by simp) (by simp)
    clear hb
    go_wp2_with fail
    exact bodyPost_ret (v := .tuple #[.agg #[.int .i64 0, .slice none 0 0], .bool false]) (by simp [results, Tryd.results60, go_sem, kr0, kr1]) rfl (HN.out _ _ ((HB4.out.setCell (by simp) _).setCell (by simp) _))
  | true =>
    have hz1 : (rCut s.data.toList).2.1.length ≤ 1048576 := by
      have h1 := cut_le (rIn s.data.toList) [40]
      have h2 := trimSuffix_le s.data.toList [41]
      have h3 : s.data.toList.length = s.size := by simp
      unfold rCut; unfold rIn at h1 ⊢; omega
    have HYES : Hid ((rParts s.data.toList).all sOk = true → ∀ w0 w' a n c bs, OInts w' (.slice a n c) ((rParts s.data.toList).map sRes) bs → Fresh w0 w' bs → Below w0.heap.size w0 w' → GaveRF s.data.toList w0 (.returned (.tuple #[.agg #[.int .i64 (sRes (rDig s.data.toList)), .slice a n c], .bool true])) w') := by
      intro hx w0 w' a n c bs ho hf hb
      have h1 : rfOk s.data.toList = true := by unfold rfOk; rw [hok, hx]; rfl
      refine ⟨_, bs, by rw [h1], ?_, hf, hb⟩
      unfold rfRes
      rw [if_pos h1]
      exact ⟨a, n, c, rfl, sRes_inI _, ho⟩
    have HNO2 : Hid ((rParts s.data.toList).all sOk = false → ∀ w0 w', Below w0.heap.size w0 w' → GaveRF s.data.toList w0 (.returned (.tuple #[.agg #[.int .i64 0, .slice none 0 0], .bool false])) w') := fun hx => HNO.out (by unfold rfOk; rw [hx, Bool.and_false])
    unfold saRel saList at H
    simp only [hok, if_true] at H
    have hzs : (bs (rCut s.data.toList).2.1).size ≤ 1048576 := by rw [bs_size]; exact hz1
    obtain ⟨t, ht⟩ : ∃ t, bs (rCut s.data.toList).2.1 = t := ⟨_, rfl⟩
    have htd : t.data.toList = (rCut s.data.toList).2.1 := by rw [← ht, bs_data]
    have hQ0 : rParts s.data.toList = Lib.splitN t.data.toList [44] 3 := by rw [htd]; rfl
    rw [ht] at H hzs
    clear hok HNO hb0 he hs hz1 ht htd
    generalize sRes (rDig s.data.toList) = R at *
    generalize hQe : rParts s.data.toList = Q at *
    clear hQe
    generalize s.data.toList = S at *
    have hlen : t.data.toList.length = t.size := by simp
    obtain ⟨P, hP⟩ : ∃ P, Lib.splitB ⟨#[44]⟩ 0 (min 3 (t.size + 1) - 1) t = P := ⟨_, rfl⟩
    have hPd : P.map (·.data.toList) = Lib.splitN t.data.toList [44] 3 := by
      rw [← hP, Lib.splitB_data]; unfold Lib.splitN; rw [hlen]
    have hPd2 : P.map (·.data.toList) = Lib.splitK [44] 0 (min 3 (t.data.toList.length + 1) - 1) t.data.toList := hPd
    have hP3 : P.length ≤ 3 := by have := Lib.splitB_length_le ⟨#[44]⟩ 0 (min 3 (t.size + 1) - 1) t; rw [hP] at this; omega
    obtain ⟨HPs, hPl, hPa⟩ := P_facts _ _ _ P hPd2 (by omega)
    have hPN : P.length ≤ min 3 (t.size + 1) := by have := Lib.splitB_length_le ⟨#[44]⟩ 0 (min 3 (t.size + 1) - 1) t; rw [hP] at this; omega
    have H5 : Hid (∀ w, MaxL w → Calls Tryd.prog 73 #[.string t, .string ⟨#[44]⟩, .int .i64 3] w fun e w' => e = .returned (.slice (some ⟨w.heap.size, 0, none⟩) P.length (min 3 (t.size + 1))) ∧ w' = w.alloc (.cells (Lib.cellsOf P (min 3 (t.size + 1))) 9)) := by
      intro w ⟨m, hm⟩
      have := Tryd.strings_SplitN t ⟨#[44]⟩ 3 m w (by omega) hm (by decide) (by omega) (by omega)
      rw [hP] at this
      exact this
    change P.length = (Lib.splitN t.data.toList [44] 3).length at hPl
    change ∀ j, j < P.length → (P.getD j ByteArray.empty).data.toList = (Lib.splitN t.data.toList [44] 3).getD j [] at hPa
    rw [← hQ0] at hPl hPa hPd
    generalize min 3 (t.size + 1) = N at *
    obtain ⟨n, hn⟩ : ∃ n, P.length = n := ⟨_, rfl⟩
    rw [hn] at H5 hP3 hPl hPN
    have HPL := Lib.hid hn
    have HQL := Lib.hid hPl
    have HPA := Lib.hid hPa
    have HPS := Lib.hid HPs
    have HPN := Lib.hid hPN
    clear hPd hPd2 hPa HPs hPl hn hPN hP hlen hQ0 hzs
    go_enter Tryd.func60, Tryd.ntmps60
    go_wp2_with fail
    refine H.out.mono ?_
    rintro e w4 ⟨rfl, hb⟩
    have HB4 := Lib.hid (bnext HB0.out hb)
    have HE4 := Lib.hid (HE0.out.below hb)
    have kr0 := cellk hb (b := w.heap.size) (o := 0) (v := .int .i64 0) (by simp)
    have kr1 := cellk hb (b := w.heap.size) (o := 1) (v := .slice none 0 0) (by simp)
    have kf0 : w4.frozen? ⟨w.heap.size, 0, none⟩ = false := frok hb (v := .int .i64 0) (by simp) (by simp)
    have kf1 : w4.frozen? ⟨w.heap.size, 1, none⟩ = false := frok hb (v := .slice none 0 0) (by simp) (by simp)
    have HLT := Lib.hid (World.block_lt_of_cell? w4 _ kr0)
    clear hb
    go_wp2_with fail
    refine (H5.out _ HE4.out.2).mono ?_
    rintro e w5 ⟨rfl, rfl⟩
    obtain ⟨W, hW⟩ : ∃ W, W = w4.alloc (.cells (Lib.cellsOf P N) 9) := ⟨_, rfl⟩
    rw [← hW]
    have hbW : Below w4.heap.size w4 W := by rw [hW]; exact below_alloc _ _
    have HKP : Hid (∀ j, j < n → W.cell? ⟨w4.heap.size, j, none⟩ = some (.string (P.getD j ByteArray.empty))) := by
      intro j hj
      have := HPL.out
      rw [hW, World.cell?_alloc_at _ _ _ _ rfl]
      unfold Lib.cellsOf
      simp [List.getElem?_append_left, List.getD, this, hj]
    have HBW := Lib.hid (bnext HB4.out hbW)
    have HEW := Lib.hid (HE4.out.below hbW)
    have HWs : Hid (w4.heap.size < W.heap.size) := by rw [hW]; unfold Hid; simp
    have KR0 := Lib.hid (cellk hbW kr0)
    have KR1 := Lib.hid (cellk hbW kr1)
    have KF0 := Lib.hid (frok hbW kr0 kf0)
    have KF1 := Lib.hid (frok hbW kr1 kf1)
    clear hbW hW kr0 kr1 kf0 kf1
    go_wp2_with (at_make; refine wpList_make_built rfl (.tmp 25) (.tmp 25) 22 rfl .i64 3 0 8 Tryd.underlying22 info_i64 (by decide) (Below.refl _ W) .i64 .i64 n rfl rfl (by omega) ?_)
    intro w6 hb6
    have hq0 : ssOf Q 0 = List.replicate n 0 := by rw [ssOf_zero, ← HQL.out]
    rw [← hq0] at hb6
    have HB6 := Lib.hid hb6
    clear hb6 hq0
    go_wp2_with fail
    go_loopw [29] (fun iv wr => ∃ i : Nat, i ≤ n ∧ iv = .int .i64 i ∧ Hid (Built .i64 3 W wr (.slice (some ⟨W.heap.size, 0, none⟩) n n) (ssOf Q i)) ∧ Hid (∀ j, j < i → sOk (Q.getD j []) = true)) (fun iv _ => n - (intOf iv).toNat)
    case atStart => exact ⟨0, by omega, rfl, HB6, fun j hj => by omega⟩
    case round =>
      obtain ⟨i, hi, rfl, HB, HY⟩ := hrel
      have HBB := Lib.hid (HB.out.below)
      by_cases hlt : i < n
      · have c1 := cellk HBB.out (HKP.out i hlt)
        have hi0 : (0 : Int) ≤ i := by omega
        have hi1 : (i : Int) < n := by omega
        have hct := iParseInt_any (P.getD i ByteArray.empty) wr (HPS.out i (by rw [HPL.out]; exact hlt)) (HEW.out.below HBB.out).1
        rw [HPA.out i (by rw [HPL.out]; exact hlt)] at hct
        have HC := Lib.hid hct
        have HSET := Lib.hid (ssOf_set Q i (by rw [← HQL.out]; exact hlt))
        generalize P.getD i ByteArray.empty = p at *
        have HX : Hid (sOk (Q.getD i []) = false → Q.all sOk = false) := fun e => by
          rw [Bool.eq_false_iff]; intro hc
          have hil : i < Q.length := by rw [← HQL.out]; exact hlt
          have := List.all_eq_true.1 hc (Q.getD i []) (by rw [List.getD_eq_getElem?_getD, List.getElem?_eq_getElem hil]; exact List.getElem_mem hil)
          rw [e] at this; cases this
        have HY2 : Hid (sOk (Q.getD i []) = true → ∀ j, j < i + 1 → sOk (Q.getD j []) = true) := fun e j hj => by
          rcases Nat.lt_or_ge j i with h | h
          · exact HY.out j h
          · obtain rfl : j = i := by omega
            exact e
        clear hct
        generalize Q.getD i [] = q at *
        generalize sRes q = tv at *
        cases hq : sOk q with
        | true =>
          rw [hq] at HC
          clear HX
          have HY3 := Lib.hid (HY2.out hq)
          clear HY2 hq
          go_wp2_with fail
          refine HC.out.mono ?_
          rintro e w7 ⟨rfl, hb⟩
          have HB7 := Lib.hid (HB.out.grow hb)
          have hsz := ssOf_len Q i (by rw [← HQL.out]; omega)
          rw [← HQL.out] at hsz
          have hst := Lib.hid (HB7.out.store hsz.symm i tv)
          have hcell := (hsz.symm ▸ HB7.out : Built .i64 3 W w7 (.slice (some ⟨W.heap.size, 0, none⟩) (ssOf Q i).length (ssOf Q i).length) (ssOf Q i)).cell i (by rw [hsz]; exact hlt)
          have hfr := HB7.out.frozen hsz.symm i
          generalize (ssOf Q i).getD i 0 = y0 at hcell
          clear hb hsz c1
          go_wp2_with fail
          refine ⟨⟨i + 1, by omega, by simp, ?_, HY3⟩, by simp [intOf]; omega⟩
          have h2 := hst.out
          rw [HSET.out] at h2
          exact h2
        | false =>
          rw [hq] at HC
          have HN := Lib.hid (HNO2.out (HX.out hq))
          clear HX HY2 hq
          go_wp2_with fail
          refine HC.out.mono ?_
          rintro e w7 ⟨rfl, hb⟩
          have HB7 := Lib.hid (bnext HBW.out (bnext HBB.out hb))
          have hbb := bnext HBB.out hb
          have kr0 := cellk hbb KR0.out
          have kr1 := cellk hbb KR1.out
          have kf0 := frok hbb KR0.out KF0.out
          have kf1 := frok hbb KR1.out KF1.out
          clear hb hbb c1
          go_wp2_with fail
          exact bodyPost_ret (v := .tuple #[.agg #[.int .i64 0, .slice none 0 0], .bool false]) (by simp [results, Tryd.results60, go_sem, kr0, kr1]) rfl (HN.out _ _ ((HB7.out.setCell (by simp) _).setCell (by simp) _))
      · obtain rfl : i = n := by omega
        have HQA : Hid (Q.all sOk = true) := by
          unfold Hid
          rw [List.all_eq_true]
          intro x hx
          obtain ⟨j, hj, rfl⟩ := List.mem_iff_getElem.1 hx
          have := HY.out j (by rw [HQL.out]; exact hj)
          rwa [List.getD_eq_getElem?_getD, List.getElem?_eq_getElem hj] at this
        have hall := HB.out
        rw [show i = Q.length from HQL.out, ssOf_all, ← HQL.out] at hall
        obtain ⟨bs', ho, hnd, hfr⟩ := OInts.ofBuilt hall (fun x hx => by obtain ⟨y, _, rfl⟩ := List.mem_map.1 hx; exact sRes_inI y)
        have HO := Lib.hid ho
        have HND := Lib.hid hnd
        have HFR := Lib.hid hfr
        have kr0 := cellk HBB.out KR0.out
        have kr1 := cellk HBB.out KR1.out
        have kf0 := frok HBB.out KR0.out KF0.out
        have kf1 := frok HBB.out KR1.out KF1.out
        clear hall ho hnd hfr
        go_wp2_with fail
        refine bodyPost_ret (v := .tuple #[.agg #[.int .i64 R, .slice (some ⟨W.heap.size, 0, none⟩) i i], .bool true]) (by simp [results, Tryd.results60, go_sem, kr0, kr1]) rfl ?_
        have hnb : ∀ b ∈ bs', W.heap.size ≤ b := fun b hb => (HFR.out b hb).1
        have hlt2 : w.heap.size < W.heap.size := Nat.lt_trans HLT.out HWs.out
        refine HYES.out HQA.out _ _ _ _ _ bs' ((HO.out.setCell hnb _ _ _ hlt2).setCell hnb _ _ _ hlt2) ⟨HND.out, fun b hb => ⟨?_, ?_⟩⟩ (((bnext HBW.out HBB.out).setCell (by simp) _).setCell (by simp) _)
        · have := hnb b hb; omega
        · have := (HFR.out b hb).2; simp [World.setCell]; exact this

def GavePFi (s : List Int) (l : List UInt8) (w : World) (e : Ending) (w' : World) : Prop := ∃ v bs, e = .returned (.tuple #[v, .bool (pfOk s l)]) ∧ ROAtom w' v (pfRes s l) bs ∧ Fresh w w' bs ∧ Below w.heap.size w w'
set_option maxRecDepth 100000 in
set_option maxHeartbeats 4000000 in
theorem iParseFact_any (w : World) (vs : Value) (s : List Int) (x : ByteArray) (hvs : RdSchema w vs s) (hs : x.size ≤ 1048576) (he : EnvS w) :
    Calls Tryd.prog 30 #[vs, .string x] w (GavePFi s x.data.toList w) := by
  obtain ⟨sa, sn, sc, rfl, hsi⟩ := hvs
  have hb0 : ∀ o p, Below w.heap.size w ((w.alloc o).alloc p) := fun o p => ((Below.refl _ _).alloc (Nat.le_refl _) _).alloc (by simp) _
  have HB0 := Lib.hid hb0
  have HA := Lib.hid (fun w h => iReadFact_any x w hs h)
  have HF := Lib.hid (fun w r v l h h' => iIsFact_any w r (.slice sa sn sc) v s l h h')
  have HSI := Lib.hid hsi
  have HE := Lib.hid he
  obtain ⟨e1, e2⟩ := pf_eq_rf s x.data.toList
  have HNO : Hid (pfOk s x.data.toList = false → ∀ w0 w', Below w0.heap.size w0 w' → GavePFi s x.data.toList w0 (.returned (.tuple #[.agg #[.int .i64 0, .slice none 0 0], .bool false])) w') := by
    intro hx w0 w' hb
    refine ⟨_, [], by rw [hx], ?_, freshNil _ _, hb⟩
    rw [pf_no hx]; exact zeroAtomO _
  unfold GaveRF at HA
  clear he hsi hb0 hs
  cases hok : rfOk x.data.toList with
  | false =>
    have HN := Lib.hid (HNO.out (by rw [e1, hok]; rfl))
    rw [hok] at HA
    clear e1 e2 hok HNO
    generalize rfRes x.data.toList = V at *
    generalize x.data.toList = S at *
    go_enter Tryd.func30, Tryd.ntmps30
    go_wp2_with fail
    refine (HA.out _ (HE.out.below (HB0.out _ _))).mono ?_
    rintro e w1 ⟨v, bs', rfl, hro, hfre, hb⟩
    obtain ⟨a, n, c, rfl, _, _⟩ := hro
    have HB1 := Lib.hid (bnext (HB0.out _ _) hb)
    have kr0 := cellk hb (b := w.heap.size + 1) (o := 0) (v := .int .i64 0) (by simp)
    have kr1 := cellk hb (b := w.heap.size + 1) (o := 1) (v := .slice none 0 0) (by simp)
    have kf0 : w1.frozen? ⟨w.heap.size + 1, 0, none⟩ = false := frok hb (v := .int .i64 0) (by simp) (by simp)
    have kf1 : w1.frozen? ⟨w.heap.size + 1, 1, none⟩ = false := frok hb (v := .slice none 0 0) (by simp) (by simp)
    have hlt := World.block_lt_of_cell? w1 _ kr0
    generalize V.1 = R at *
    clear hb hfre
    go_wp2_with fail
    exact bodyPost_ret (v := .tuple #[.agg #[.int .i64 0, .slice none 0 0], .bool false]) (by simp [results, Tryd.results30, go_sem, kr0, kr1, hlt]) rfl (HN.out _ _ (((HB1.out.setCell (by simp) _).setCell (by simp) _).alloc (by have := HB1.out.size; simpa [World.setCell] using this) _))
  | true =>
    have hv : rfRes x.data.toList = rfVal x.data.toList := by unfold rfRes; rw [if_pos hok]
    rw [hok, hv] at HA
    rw [hok, Bool.true_and] at e1
    have HYES : Hid (isFactB s (rfVal x.data.toList).1 (rfVal x.data.toList).2 = true → ∀ w0 w' a n c bs, OInts w' (.slice a n c) (rfVal x.data.toList).2 bs → inI (rfVal x.data.toList).1 → Fresh w0 w' bs → Below w0.heap.size w0 w' → GavePFi s x.data.toList w0 (.returned (.tuple #[.agg #[.int .i64 (rfVal x.data.toList).1, .slice a n c], .bool true])) w') := by
      intro hx w0 w' a n c bs ho hi hf hb
      rw [← e1] at hx
      refine ⟨_, bs, by rw [hx], ?_, hf, hb⟩
      rw [pf_yes hx, e2 hx]
      exact ⟨a, n, c, rfl, hi, ho⟩
    rw [e1] at HNO
    have HFq := Lib.hid (fun w v h h' => HF.out w (rfVal x.data.toList).1 v (rfVal x.data.toList).2 h h')
    clear e1 e2 hok hv HF
    unfold ROAtom at HA
    generalize isFactB s (rfVal x.data.toList).1 (rfVal x.data.toList).2 = q at *
    generalize (rfVal x.data.toList).1 = R at *
    generalize (rfVal x.data.toList).2 = L at *
    generalize x.data.toList = S at *
    cases q
    all_goals
      go_enter Tryd.func30, Tryd.ntmps30
      go_wp2_with fail
      refine (HA.out _ (HE.out.below (HB0.out _ _))).mono ?_
      rintro e w1 ⟨v, bs', rfl, ⟨a, n, c, rfl, hri, ho⟩, hfre, hb⟩
      have HRI := Lib.hid hri
      have HB1 := Lib.hid (bnext (HB0.out _ _) hb)
      have ks := cellk hb (b := w.heap.size) (o := 0) (v := .slice sa sn sc) (by simp)
      have kr0 := cellk hb (b := w.heap.size + 1) (o := 0) (v := .int .i64 0) (by simp)
      have kr1 := cellk hb (b := w.heap.size + 1) (o := 1) (v := .slice none 0 0) (by simp)
      have kf0 : w1.frozen? ⟨w.heap.size + 1, 0, none⟩ = false := frok hb (v := .int .i64 0) (by simp) (by simp)
      have kf1 : w1.frozen? ⟨w.heap.size + 1, 1, none⟩ = false := frok hb (v := .slice none 0 0) (by simp) (by simp)
      have hlt := World.block_lt_of_cell? w1 _ kr0
      have HLO : Hid (∀ b ∈ bs', w.heap.size + 2 ≤ b) := fun b hb => by have := hfre.lo b hb; simpa using this
      have HFR := Lib.hid hfre
      have HO := Lib.hid ho
      have HAL := Lib.hid (below_alloc w1 (.cells #[.int .i64 R, .slice a n c] 49))
      have HF1 := Lib.hid (fun o => HFq.out _ (.slice a n c) (HSI.out.below (bnext HB1.out (below_alloc w1 o))) (ho.1.below (below_alloc w1 o)))
      have ks' := cellk HAL.out ks
      clear hb hfre ho
      go_wp2_with fail
      refine (HF1.out _).mono ?_
      rintro e w3 ⟨rfl, hb⟩
      have HB3 := Lib.hid (bnext HB1.out (bnext HAL.out hb))
      have HO3 := Lib.hid (HO.out.below (bnext HAL.out hb))
      have HSZ := Lib.hid (bnext HAL.out hb).size
      have kx0 := cellk hb (b := w1.heap.size) (o := 0) (v := .int .i64 R) (by simp)
      have kx1 := cellk hb (b := w1.heap.size) (o := 1) (v := .slice a n c) (by simp)
      replace kf0 := frok (bnext HAL.out hb) kr0 kf0
      replace kf1 := frok (bnext HAL.out hb) kr1 kf1
      replace kr0 := cellk (bnext HAL.out hb) kr0
      replace kr1 := cellk (bnext HAL.out hb) kr1
      clear hb
      go_wp2_with fail
    · exact bodyPost_ret (v := .tuple #[.agg #[.int .i64 0, .slice none 0 0], .bool false]) (by simp [results, Tryd.results30, go_sem, kr0, kr1]) rfl (HNO.out (by trivial) _ _ ((HB3.out.setCell (by simp) _).setCell (by simp) _))
    · refine bodyPost_ret (v := .tuple #[.agg #[.int .i64 R, .slice a n c], .bool true]) (by simp [results, Tryd.results30, go_sem, kr0, kr1]) rfl ?_
      refine HYES.out (by trivial) _ _ _ _ _ bs' ((HO3.out.setCell HLO.out _ _ _ (by omega)).setCell HLO.out _ _ _ (by omega)) HRI.out ⟨HFR.out.1, fun b hb => ⟨?_, ?_⟩⟩ ((HB3.out.setCell (by simp) _).setCell (by simp) _)
      · have := HLO.out b hb; omega
      · have := (HFR.out.2 b hb).2; have := HSZ.out; simp [World.setCell]; omega
end Go.Proofs.YtchcifikopmfoaaDoor
