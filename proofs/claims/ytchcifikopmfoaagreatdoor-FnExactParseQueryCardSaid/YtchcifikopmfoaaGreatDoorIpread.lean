/- Contract of chapter 3's program: readTerms. -/
import Derived.Test.YtchcifikopmfoaaGreatDoorPamath
import Derived.Test.YtchcifikopmfoaaGreatDoorShape
import Derived.Test.YtchcifikopmfoaaGreatDoorRd
namespace Go.Proofs.YtchcifikopmfoaaGreatDoor
open Go Go.Sort Go.RowKit
set_option linter.unusedVariables false

theorem splitK_le (sep : List UInt8) : ∀ (k : Nat) (s : List UInt8), ∀ x ∈ Lib.splitK sep 0 k s, x.length ≤ s.length := by
  intro k
  induction k with
  | zero => intro s x hx; simp [Lib.splitK] at hx; rw [hx]; exact Nat.le_refl _
  | succ k ih =>
    intro s x hx
    unfold Lib.splitK at hx
    split at hx
    · simp at hx; rw [hx]; exact Nat.le_refl _
    · rcases List.mem_cons.1 hx with rfl | hx
      · rw [List.length_take]; omega
      · have := ih _ _ hx
        rw [List.length_drop] at this; omega
theorem tRes_inI (p : List UInt8) : inI (tRes p) := by
  have := tcand_bd p
  unfold tRes inI
  split <;> omega
theorem P_facts (S sep : List UInt8) (k : Nat) (P : List ByteArray) (h : P.map (·.data.toList) = Lib.splitK sep 0 k S) (hl : S.length ≤ 1048576) :
    (∀ j, j < P.length → (P.getD j ByteArray.empty).size ≤ 1048576) ∧ P.length = (Lib.splitK sep 0 k S).length ∧ ∀ j, j < P.length → (P.getD j ByteArray.empty).data.toList = (Lib.splitK sep 0 k S).getD j [] := by
  have hlen : P.length = (Lib.splitK sep 0 k S).length := by rw [← h]; simp
  have hat : ∀ j, j < P.length → (P.getD j ByteArray.empty).data.toList = (Lib.splitK sep 0 k S).getD j [] := by
    intro j hj
    rw [← h]
    simp [List.getD, List.getElem?_eq_getElem hj]
  refine ⟨fun j hj => ?_, hlen, hat⟩
  have h1 := hat j hj
  have hm : (Lib.splitK sep 0 k S).getD j [] ∈ Lib.splitK sep 0 k S := by
    rw [List.getD_eq_getElem?_getD, List.getElem?_eq_getElem (by omega)]; exact List.getElem_mem _
  have h2 := splitK_le _ _ _ _ hm
  rw [← h1] at h2
  have : (P.getD j ByteArray.empty).size = (P.getD j ByteArray.empty).data.toList.length := by simp
  omega
def tsOf (q : List (List UInt8)) (i : Nat) : List Int := (q.take i).map tRes ++ List.replicate (q.length - i) 0
theorem tsOf_len (q : List (List UInt8)) (i : Nat) (h : i ≤ q.length) : (tsOf q i).length = q.length := by unfold tsOf; simp; omega
theorem tsOf_set (q : List (List UInt8)) (i : Nat) (h : i < q.length) : (tsOf q i).set i (tRes (q.getD i [])) = tsOf q (i + 1) := by
  unfold tsOf
  have hg : q.getD i [] = q[i] := by simp [List.getD, List.getElem?_eq_getElem h]
  rw [List.set_append_right _ _ (by simp; omega), List.length_map, List.length_take, Nat.min_eq_left (by omega), Nat.sub_self, hg, show q.length - i = (q.length - (i + 1)) + 1 from by omega, List.replicate_succ, List.set_cons_zero, List.take_succ_eq_append_getElem h, List.map_append, List.append_assoc]
  rfl
theorem tsOf_all (q : List (List UInt8)) : tsOf q q.length = q.map tRes := by unfold tsOf; simp
theorem tsOf_zero (q : List (List UInt8)) : tsOf q 0 = List.replicate q.length 0 := by unfold tsOf; simp


def rtOk (s : List UInt8) : Bool := (Lib.splitN s [44] 3).all tOk
def rtVal (s : List UInt8) : List Int := if rtOk s then (Lib.splitN s [44] 3).map tRes else []
def GaveRT (s : List UInt8) (w : World) (e : Ending) (w' : World) : Prop := ∃ a n c bs, e = .returned (.tuple #[.slice a n c, .bool (rtOk s)]) ∧ OInts w' (.slice a n c) (rtVal s) bs ∧ Fresh w w' bs ∧ Below w.heap.size w w'
set_option maxRecDepth 100000 in
set_option maxHeartbeats 8000000 in
theorem iReadTerms_any (s : ByteArray) (w : World) (hs : s.size ≤ 1048576) (he : EnvS w) :
    Calls Tryz.prog 54 #[.string s] w (GaveRT s.data.toList w) := by
  have hlen : s.data.toList.length = s.size := by simp
  obtain ⟨P, hP⟩ : ∃ P, Lib.splitB ⟨#[44]⟩ 0 (min 3 (s.size + 1) - 1) s = P := ⟨_, rfl⟩
  have hPd : P.map (·.data.toList) = Lib.splitN s.data.toList [44] 3 := by
    rw [← hP, Lib.splitB_data]; unfold Lib.splitN; rw [hlen]
  have hPd2 : P.map (·.data.toList) = Lib.splitK [44] 0 (min 3 (s.data.toList.length + 1) - 1) s.data.toList := hPd
  have hP3 : P.length ≤ 3 := by have := Lib.splitB_length_le ⟨#[44]⟩ 0 (min 3 (s.size + 1) - 1) s; rw [hP] at this; omega
  obtain ⟨HPs, hPl, hPa⟩ := P_facts _ _ _ P hPd2 (by omega)
  have hPN : P.length ≤ min 3 (s.size + 1) := by have := Lib.splitB_length_le ⟨#[44]⟩ 0 (min 3 (s.size + 1) - 1) s; rw [hP] at this; omega
  have H5 : Hid (∀ w, MaxL w → Calls Tryz.prog 37 #[.string s, .string ⟨#[44]⟩, .int .i64 3] w fun e w' => e = .returned (.slice (some ⟨w.heap.size, 0, none⟩) P.length (min 3 (s.size + 1))) ∧ w' = w.alloc (.cells (Lib.cellsOf P (min 3 (s.size + 1))) 9)) := by
    intro w ⟨m, hm⟩
    have := Tryz.strings_SplitN s ⟨#[44]⟩ 3 m w (by omega) hm (by decide) (by omega) (by omega)
    rw [hP] at this
    exact this
  have HNO : Hid ((Lib.splitN s.data.toList [44] 3).all tOk = false → ∀ w0 w', Below w0.heap.size w0 w' → GaveRT s.data.toList w0 (.returned (.tuple #[.slice none 0 0, .bool false])) w') := by
    intro hx w0 w' hb
    have h1 : rtOk s.data.toList = false := hx
    refine ⟨none, 0, 0, [], by rw [h1], ?_, freshNil _ _, hb⟩
    unfold rtVal; rw [h1]
    exact ⟨Ints.nil _, .inl ⟨none, 0, rfl, rfl⟩⟩
  have HYES : Hid ((Lib.splitN s.data.toList [44] 3).all tOk = true → ∀ w0 w' a n c bs, OInts w' (.slice a n c) ((Lib.splitN s.data.toList [44] 3).map tRes) bs → Fresh w0 w' bs → Below w0.heap.size w0 w' → GaveRT s.data.toList w0 (.returned (.tuple #[.slice a n c, .bool true])) w') := by
    intro hx w0 w' a n c bs ho hf hb
    have h1 : rtOk s.data.toList = true := hx
    refine ⟨a, n, c, bs, by rw [h1], ?_, hf, hb⟩
    unfold rtVal
    rw [if_pos h1]
    exact ho
  change P.length = (Lib.splitN s.data.toList [44] 3).length at hPl
  change ∀ j, j < P.length → (P.getD j ByteArray.empty).data.toList = (Lib.splitN s.data.toList [44] 3).getD j [] at hPa
  generalize min 3 (s.size + 1) = N at *
  obtain ⟨Q, hQ⟩ : ∃ Q, Lib.splitN s.data.toList [44] 3 = Q := ⟨_, rfl⟩
  rw [hQ] at HNO HYES hPl hPa hPd
  generalize s.data.toList = S at *
  obtain ⟨n, hn⟩ : ∃ n, P.length = n := ⟨_, rfl⟩
  rw [hn] at H5 hP3 hPl hPN
  have HE := Lib.hid he
  have HPL := Lib.hid hn
  have HQL := Lib.hid hPl
  have HPA := Lib.hid hPa
  have HPS := Lib.hid HPs
  have HPN := Lib.hid hPN
  clear he hs hPd hPd2 hPa HPs hPl hn hPN hQ hP hlen
  go_enter Tryz.func54, Tryz.ntmps54
  go_wp2_with fail
  refine (H5.out _ HE.out.2).mono ?_
  rintro e w5 ⟨rfl, rfl⟩
  obtain ⟨W, hW⟩ : ∃ W, W = w.alloc (.cells (Lib.cellsOf P N) 9) := ⟨_, rfl⟩
  rw [← hW]
  have hbW : Below w.heap.size w W := by rw [hW]; exact below_alloc _ _
  have HKP : Hid (∀ j, j < n → W.cell? ⟨w.heap.size, j, none⟩ = some (.string (P.getD j ByteArray.empty))) := by
    intro j hj
    have := HPL.out
    rw [hW, World.cell?_alloc_at _ _ _ _ rfl]
    unfold Lib.cellsOf
    simp [List.getElem?_append_left, List.getD, this, hj]
  have HBW := Lib.hid hbW
  have HEW := Lib.hid (HE.out.below hbW)
  have HWs : Hid (w.heap.size < W.heap.size) := by rw [hW]; unfold Hid; simp
  clear hbW hW
  go_wp2_with (at_make; refine wpList_make_built rfl (.tmp 13) (.tmp 13) 22 rfl .i64 3 0 8 Tryz.underlying22 info_i64 (by decide) (Below.refl _ W) .i64 .i64 n rfl rfl (by omega) ?_)
  intro w6 hb6
  have hq0 : tsOf Q 0 = List.replicate n 0 := by rw [tsOf_zero, ← HQL.out]
  rw [← hq0] at hb6
  have HB6 := Lib.hid hb6
  clear hb6 hq0
  go_wp2_with fail
  go_loopw [17] (fun iv wr => ∃ i : Nat, i ≤ n ∧ iv = .int .i64 i ∧ Hid (Built .i64 3 W wr (.slice (some ⟨W.heap.size, 0, none⟩) n n) (tsOf Q i)) ∧ Hid (∀ j, j < i → tOk (Q.getD j []) = true)) (fun iv _ => n - (intOf iv).toNat)
  case atStart => exact ⟨0, by omega, rfl, HB6, fun j hj => by omega⟩
  case round =>
    obtain ⟨i, hi, rfl, HB, HY⟩ := hrel
    have HBB := Lib.hid (HB.out.below)
    by_cases hlt : i < n
    · have c1 := cellk HBB.out (HKP.out i hlt)
      have hi0 : (0 : Int) ≤ i := by omega
      have hi1 : (i : Int) < n := by omega
      have hct := iParseTerm_any (P.getD i ByteArray.empty) wr (HPS.out i (by rw [HPL.out]; exact hlt)) (HEW.out.below HBB.out).1
      rw [HPA.out i (by rw [HPL.out]; exact hlt)] at hct
      have HC := Lib.hid hct
      have HSET := Lib.hid (tsOf_set Q i (by rw [← HQL.out]; exact hlt))
      generalize P.getD i ByteArray.empty = p at *
      have HX : Hid (tOk (Q.getD i []) = false → Q.all tOk = false) := fun e => by
        rw [Bool.eq_false_iff]; intro hc
        have hil : i < Q.length := by rw [← HQL.out]; exact hlt
        have := List.all_eq_true.1 hc (Q.getD i []) (by rw [List.getD_eq_getElem?_getD, List.getElem?_eq_getElem hil]; exact List.getElem_mem hil)
        rw [e] at this; cases this
      have HY2 : Hid (tOk (Q.getD i []) = true → ∀ j, j < i + 1 → tOk (Q.getD j []) = true) := fun e j hj => by
        rcases Nat.lt_or_ge j i with h | h
        · exact HY.out j h
        · obtain rfl : j = i := by omega
          exact e
      clear hct
      generalize Q.getD i [] = q at *
      generalize tRes q = tv at *
      cases hq : tOk q with
      | true =>
        rw [hq] at HC
        clear HX
        have HY3 := Lib.hid (HY2.out hq)
        clear HY2 hq
        go_wp2_with fail
        refine HC.out.mono ?_
        rintro e w7 ⟨rfl, hb⟩
        have HB7 := Lib.hid (HB.out.grow hb)
        have hsz := tsOf_len Q i (by rw [← HQL.out]; omega)
        rw [← HQL.out] at hsz
        have hst := Lib.hid (HB7.out.store hsz.symm i tv)
        have hcell := (hsz.symm ▸ HB7.out : Built .i64 3 W w7 (.slice (some ⟨W.heap.size, 0, none⟩) (tsOf Q i).length (tsOf Q i).length) (tsOf Q i)).cell i (by rw [hsz]; exact hlt)
        have hfr := HB7.out.frozen hsz.symm i
        generalize (tsOf Q i).getD i 0 = y0 at hcell
        clear hb hsz c1
        go_wp2_with fail
        refine ⟨⟨i + 1, by omega, by simp, ?_, HY3⟩, by simp [intOf]; omega⟩
        have h2 := hst.out
        rw [HSET.out] at h2
        exact h2
      | false =>
        rw [hq] at HC
        have HN := Lib.hid (HNO.out (HX.out hq))
        clear HX HY2 hq
        go_wp2_with fail
        refine HC.out.mono ?_
        rintro e w7 ⟨rfl, hb⟩
        have HB7 := Lib.hid (bnext HBW.out (bnext HBB.out hb))
        clear hb c1
        go_wp2_with fail
        go_ret2
        exact HN.out _ _ HB7.out
    · obtain rfl : i = n := by omega
      have HQA : Hid (Q.all tOk = true) := by
        unfold Hid
        rw [List.all_eq_true]
        intro x hx
        obtain ⟨j, hj, rfl⟩ := List.mem_iff_getElem.1 hx
        have := HY.out j (by rw [HQL.out]; exact hj)
        rwa [List.getD_eq_getElem?_getD, List.getElem?_eq_getElem hj] at this
      have hall := HB.out
      rw [show i = Q.length from HQL.out, tsOf_all, ← HQL.out] at hall
      obtain ⟨bs', ho, hnd, hfr⟩ := OInts.ofBuilt hall (fun x hx => by obtain ⟨y, _, rfl⟩ := List.mem_map.1 hx; exact tRes_inI y)
      have HO := Lib.hid ho
      have HND := Lib.hid hnd
      have HFR := Lib.hid hfr
      clear hall ho hnd hfr
      go_wp2_with fail
      go_ret2
      refine HYES.out HQA.out _ _ _ _ _ bs' HO.out ⟨HND.out, fun b hb => ⟨?_, (HFR.out b hb).2⟩⟩ (bnext HBW.out HBB.out)
      have := (HFR.out b hb).1; have := HBW.out.size; omega
end Go.Proofs.YtchcifikopmfoaaGreatDoor
