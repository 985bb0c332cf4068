/- Contracts of chapter 8's program: addAll, addQuery, values. -/
import Derived.Test.YtcabgdaloffcdaaI8mp
import Derived.Test.YtcabgdaloffcdaaU8un
import Derived.Test.YtcabgdaloffcdaaIquery
namespace Go.Proofs.Ytcabgdaloffcdaa
open Go Go.Sort Go.RowKit
set_option linter.unusedVariables false

theorem FT.ne {w : World} {M : Nat} {ts : List Int} {b o : Nat} {v : Value} (h : FT w M ts) (hc : w.cell? ⟨b, o, none⟩ = some v) : b ≠ M := by
  rintro rfl
  obtain ⟨es, clock, hb, _⟩ := h
  simp [World.cell?, hb] at hc
theorem FT.ints {w w' : World} {M : Nat} {ts : List Int} {v : Value} {l : List Int} (h : FT w M ts) (ko : OnlyAt [M] w w') (hi : Ints w v l) : Ints w' v l := by
  refine hi.onlyAt ko (fun b off n c e h0 hm => ?_)
  subst e
  obtain ⟨a, n', c', e, hl, hn, hmx, hc⟩ := hi.cases
  cases e
  obtain ⟨b', off', e, _, hcc⟩ := hc (by omega)
  cases e
  exact h.ne (hcc 0 (by omega)) (by simpa using hm)
theorem FT.snoc {w' : World} {M : Nat} {ts : List Int} {t : Int} (h : w'.ownsMap Try.prog 3 (plainElem Try.prog 3) M (ts.length + 1) ((fzD ts).put (.int .i64 t) (.lit (.int .i64 (val8 t))))) : FT w' M (ts ++ [t]) := by
  unfold FT; rw [fzD_snoc, List.length_append]; exact h
theorem take_snoc8 {l : List Int} {i : Nat} (h : i < l.length) : l.take (i + 1) = l.take i ++ [l.getD i 0] := by
  rw [List.take_succ_eq_append_getElem h, List.getD_eq_getElem?_getD, List.getElem?_eq_getElem h]; rfl
theorem plain8 {x : Int} (h : inI x) : plainElem (H := Unit) Try.prog 3 (.int .i64 x) = some (.lit (.int .i64 x), []) := plainElem_int Try.underlying3 (wf8 h)
theorem terms_yes8 {l : List Int} (h3 : l.length ≤ 3) (h : ∀ j, j < l.length → termB (l.getD j 0) = true) : termsB l = true := by
  unfold termsB
  rw [decide_eq_true h3, Bool.and_true, List.all_eq_true]
  intro x hx
  obtain ⟨j, hj⟩ := List.mem_iff_getElem?.1 hx
  have := h j (List.getElem?_eq_some_iff.1 hj).1
  rwa [List.getD_eq_getElem?_getD, hj] at this
theorem terms_no8 {l : List Int} {j : Nat} (hj : j < l.length) (h : termB (l.getD j 0) = false) : termsB l = false := by
  cases hb : termsB l
  · rfl
  · have := List.all_eq_true.1 (terms_all hb) (l.getD j 0) (by rw [List.getD_eq_getElem?_getD, List.getElem?_eq_getElem hj]; exact List.getElem_mem hj)
    rw [this] at h; cases h
theorem terms_long8 {l : List Int} (h : ¬ l.length ≤ 3) : termsB l = false := by unfold termsB; rw [decide_eq_false h, Bool.and_false]

/-- What adding the terms of a list does. -/
def Added (w : World) (M : Nat) (ts l : List Int) (e : Ending) (w' : World) : Prop :=
  ∃ ts', e = .returned (.bool (termsB l)) ∧ FT w' M ts' ∧ (∀ t ∈ ts, t ∈ ts') ∧ (termsB l = true → ∀ t ∈ l, t ∈ ts') ∧ ts'.length ≤ ts.length + 3 ∧ OnlyAt [M] w w'

set_option maxHeartbeats 4000000 in
theorem iAddAll_any (w : World) (M : Nat) (v : Value) (l ts : List Int) (h : Ints w v l) (hF : FT w M ts) (hts : ts.length ≤ 1000) :
    Calls Try.prog 55 #[.map (some M), v] w (Added w M ts l) := by
  obtain ⟨a, n, cap, rfl, hl, hn, hm, hcell⟩ := h.cases
  unfold maxLen at hm
  have HL := Lib.hid hl
  have HF := Lib.hid hF
  have HTS := Lib.hid hts
  by_cases h3 : n ≤ 3
  · have HC := Lib.hid hcell
    have HI := Lib.hid h.1
    have h3' : ¬ (3 : Int) < n := by omega
    clear h hcell hl hF hts
    go_enter Try.func55, Try.ntmps55
    go_wp2_with fail
    go_loopw [12] (fun iv wr => ∃ i : Nat, i ≤ n ∧ iv = .int .i64 i ∧ (∀ j, j < i → termB (l.getD j 0) = true) ∧ Hid (FT wr M (ts ++ l.take i)) ∧ Hid (OnlyAt [M] w wr)) (fun iv _ => n - (intOf iv).toNat)
    case atStart => exact ⟨0, by omega, rfl, fun j hj => by omega, Lib.hid (by simpa using HF.out), Lib.hid (OnlyAt.refl _ _)⟩
    case round =>
      obtain ⟨i, hi, rfl, hok, HT, HO⟩ := hrel
      by_cases hlt : i < n
      · obtain ⟨b, off, rfl, hbw, hc⟩ := HC.out (by omega)
        have c1 := HO.out.cell (by simpa using HF.out.ne (hc i hlt)) (hc i hlt)
        have hi0 : (0 : Int) ≤ i := by omega
        have hi1 : (i : Int) < n := by omega
        have hin := inI_getD HI.out i
        have HOK := Lib.hid hok
        have HTK := Lib.hid (take_snoc8 (l := l) (i := i) (by rw [HL.out]; exact hlt))
        have HNO := Lib.hid (fun h => terms_no8 (l := l) (j := i) (by rw [HL.out]; exact hlt) h)
        have HIV := Lib.hid (fun w => iIsVar_any (l.getD i 0) w)
        have HIT := Lib.hid (fun w => iIsTerm_any (l.getD i 0) w hin.1 hin.2)
        have HIC := Lib.hid (fun w => iConstOf_any (l.getD i 0) w hin.1 hin.2)
        have HX : ∃ x, x = l.getD i 0 := ⟨_, rfl⟩
        obtain ⟨x, hx⟩ := HX
        rw [← hx] at c1 hin HTK HNO HIV HIT HIC
        have HXE := Lib.hid hx
        have HKEY := Lib.hid (Maps.keyOf_int_mk Try.underlying3 (wf8 hin))
        have hns : (ts ++ l.take i).length < 2000 := by have := HTS.out; simp; omega
        have HNEXT : Hid (∀ w3, w3.ownsMap Try.prog 3 (plainElem (H := Unit) Try.prog 3) M ((ts ++ l.take i).length + 1) ((fzD (ts ++ l.take i)).put (.int .i64 x) (.lit (.int .i64 (val8 x)))) → FT w3 M (ts ++ l.take (i + 1))) := fun w3 h => by
          rw [HTK.out, ← List.append_assoc]; exact FT.snoc h
        clear hc hbw hok hx
        go_wp2_with fail
        refine (HIV.out _).mono ?_
        rintro e w2 ⟨rfl, rfl⟩
        cases hv : varB x with
        | true =>
          have hvr := of_decide_eq_true hv
          have htx : termB x = true := by unfold termB; rw [hv]; rfl
          have HV8 : Hid (plainElem (H := Unit) Try.prog 3 (.int .i64 (80 + x)) = some (.lit (.int .i64 (val8 x)), [])) := by
            unfold Hid; rw [val8_pos hvr.1]; exact plain8 (by unfold inI; omega)
          have HTX := Lib.hid htx
          clear hv htx
          go_wp2_with (at_mapUpdate; refine wpList_mapUpdate_own _ rfl _ _ _ 61 rfl 3 3 intLaw8 Try.underlying61 _ M _ _ rfl HT.out (by unfold maxLen; omega) _ _ _ rfl rfl HKEY.out (.lit (.int .i64 (val8 x))) [] HV8.out ?_; intro w3 hown3 hgrow3)
          have HT3 := Lib.hid (HNEXT.out w3 hown3)
          have HO3 := Lib.hid (HO.out.same (onlyAt_grown [M] hgrow3 (fun k e => by cases e; simp)))
          clear hown3 hgrow3
          go_wp2_with fail
          exact ⟨⟨i + 1, by omega, by simp, fun j hj => by
            rcases Nat.lt_or_ge j i with h1 | h1
            · exact HOK.out j h1
            · obtain rfl : j = i := by omega
              rw [← HXE.out]; exact HTX.out, HT3, HO3⟩, by simp [intOf]; omega⟩
        | false =>
          go_wp2_with fail
          refine (HIT.out _).mono ?_
          rintro e w2 ⟨rfl, rfl⟩
          cases htx : termB x with
          | true =>
            have hcb : conB x = true := by unfold termB at htx; rw [hv] at htx; simpa using htx
            have hcr := of_decide_eq_true hcb
            have hcv : conOf x = val8 x := by unfold conOf; rw [hcb, if_pos rfl, val8_neg (by omega)]
            have HV8 : Hid (plainElem (H := Unit) Try.prog 3 (.int .i64 (conOf x)) = some (.lit (.int .i64 (val8 x)), [])) := by
              unfold Hid; rw [hcv]; exact plain8 (val8_inI htx)
            have HTX := Lib.hid htx
            clear hv htx hcb hcv
            go_wp2_with fail
            refine (HIC.out _).mono ?_
            rintro e w2 ⟨rfl, rfl⟩
            generalize conOf x = cx at *
            go_wp2_with (at_mapUpdate; refine wpList_mapUpdate_own _ rfl _ _ _ 61 rfl 3 3 intLaw8 Try.underlying61 _ M _ _ rfl HT.out (by unfold maxLen; omega) _ _ _ rfl rfl HKEY.out (.lit (.int .i64 (val8 x))) [] HV8.out ?_; intro w3 hown3 hgrow3)
            have HT3 := Lib.hid (HNEXT.out w3 hown3)
            have HO3 := Lib.hid (HO.out.same (onlyAt_grown [M] hgrow3 (fun k e => by cases e; simp)))
            clear hown3 hgrow3
            go_wp2_with fail
            exact ⟨⟨i + 1, by omega, by simp, fun j hj => by
              rcases Nat.lt_or_ge j i with h1 | h1
              · exact HOK.out j h1
              · obtain rfl : j = i := by omega
                rw [← HXE.out]; exact HTX.out, HT3, HO3⟩, by simp [intOf]; omega⟩
          | false =>
            have HN := Lib.hid (HNO.out htx)
            clear htx hv
            go_wp2_with fail
            go_ret
            exact ⟨ts ++ l.take i, by rw [HN.out]; rfl, HT.out, fun t ht => List.mem_append.2 (.inl ht), (fun h => by rw [HN.out] at h; cases h), by simp; omega, HO.out⟩
      · obtain rfl : i = n := by omega
        have HY : Hid (termsB l = true) := terms_yes8 (by rw [HL.out]; exact h3) (fun j hj => hok j (by rw [HL.out] at hj; exact hj))
        have HTK : Hid (l.take i = l) := List.take_of_length_le (by rw [HL.out]; exact Nat.le_refl _)
        clear hok
        go_wp2_with fail
        go_ret
        have h5 := HT.out
        rw [HTK.out] at h5
        exact ⟨ts ++ l, by rw [HY.out]; rfl, h5, fun t ht => List.mem_append.2 (.inl ht), fun _ t ht => List.mem_append.2 (.inr ht), by simp; have := HL.out; omega, HO.out⟩
  · have HN := Lib.hid (terms_long8 (l := l) (by omega))
    have h3' : (3 : Int) < n := by omega
    clear h hcell hl hF hts
    go_enter Try.func55, Try.ntmps55
    go_wp2_with fail
    go_ret
    exact ⟨ts, by rw [HN.out]; rfl, HF.out, fun t ht => ht, (fun h => by rw [HN.out] at h; cases h), by omega, OnlyAt.refl _ _⟩

set_option maxRecDepth 100000 in
set_option maxHeartbeats 4000000 in
theorem iValues_any (w : World) (M : Nat) (v : Value) (l ts : List Int) (h : Ints w v l) (hF : FT w M ts) (hin : ∀ t ∈ l, t ∈ ts) (ht : termsB l = true) :
    Calls Try.prog 40 #[.map (some M), v] w (GaveInts w (l.map val8)) := by
  obtain ⟨a, n, cap, rfl, hl, hn, hm, hcell⟩ := h.cases
  unfold maxLen at hm
  have hz := terms_len3 ht
  rw [hl] at hz
  have HC := Lib.hid hcell
  have HL := Lib.hid hl
  have HF := Lib.hid hF
  have HTE : Hid (∀ i, i < n → l.getD i 0 ∈ l) := fun i hi => by
    rw [List.getD_eq_getElem?_getD, List.getElem?_eq_getElem (by omega)]; exact List.getElem_mem _
  have HTB : Hid (∀ t ∈ l, termB t = true) := fun t hx => List.all_eq_true.1 (terms_all ht) t hx
  have HIN := Lib.hid hin
  have HI : Hid (∀ x ∈ l.map val8, inI x) := fun x hx => by obtain ⟨y, hy, rfl⟩ := List.mem_map.1 hx; exact val8_inI (HTB.out y hy)
  clear h hcell hl hF hin ht
  go_enter Try.func40, Try.ntmps40
  go_wp2_with (at_make; refine wpList_make_built rfl (.tmp 9) (.tmp 9) 22 rfl .i64 3 0 8 Try.underlying22 info_i64 (by decide) (Below.refl _ w) .i64 .i64 n rfl rfl (by omega) ?_)
  intro w1 hb1
  have hq0 : flOf val8 l 0 = List.replicate n 0 := by rw [flOf_zero, HL.out]
  rw [← hq0] at hb1
  have HB1 := Lib.hid hb1
  clear hb1 hq0
  go_wp2_with fail
  go_loopw [13] (fun iv wr => ∃ i : Nat, i ≤ n ∧ iv = .int .i64 i ∧ Hid (Built .i64 3 w wr (.slice (some ⟨w.heap.size, 0, none⟩) n n) (flOf val8 l i))) (fun iv _ => n - (intOf iv).toNat)
  case atStart => exact ⟨0, by omega, rfl, HB1⟩
  case round =>
    obtain ⟨i, hi, rfl, HB⟩ := hrel
    have HBB := Lib.hid (HB.out.below)
    by_cases hlt : i < n
    · obtain ⟨b, off, rfl, hbw, hc⟩ := HC.out (by omega)
      have c1 := cellk HBB.out (hc i hlt)
      have hi0 : (0 : Int) ≤ i := by omega
      have hi1 : (i : Int) < n := by omega
      have HSET := Lib.hid (flOf_set val8 l i (by rw [HL.out]; exact hlt))
      have hsz := flOf_len val8 l i (by rw [HL.out]; omega)
      rw [HL.out] at hsz
      have hcell := (hsz.symm ▸ HB.out : Built .i64 3 w wr (.slice (some ⟨w.heap.size, 0, none⟩) (flOf val8 l i).length (flOf val8 l i).length) (flOf val8 l i)).cell i (by rw [hsz]; exact hlt)
      have hfr := HB.out.frozen hsz.symm i
      generalize (flOf val8 l i).getD i 0 = y0 at hcell
      have hst := Lib.hid (HB.out.store hsz.symm i (val8 (l.getD i 0)))
      have HFW := Lib.hid (HF.out.below HBB.out)
      have HAT := Lib.hid (fzD_at (HIN.out _ (HTE.out i hlt)) (.lit (.int .i64 0)))
      have htb := HTB.out _ (HTE.out i hlt)
      have htr := term_in htb
      have HKEY := Lib.hid (Maps.keyOf_int_mk Try.underlying3 (wf8 (by unfold inI; omega : inI (l.getD i 0))))
      generalize l.getD i 0 = x at *
      clear hc hbw hsz htb
      go_wp2_with (at_lookup; refine wpList_lookup_own_int _ rfl _ _ 61 rfl 3 3 .i64 intLaw8 Try.underlying61 Try.underlying3 (Try.zeroValue3 _) M _ _ rfl HFW.out _ _ rfl HKEY.out ?_; intro c hat hwc)
      have hcv : c = val8 x := by rw [HAT.out] at hat; cases hat; rfl
      subst hcv
      clear hat hwc
      go_wp2_with fail
      refine ⟨⟨i + 1, by omega, by simp, ?_⟩, by simp [intOf]; omega⟩
      have h2 := hst.out
      rw [HSET.out] at h2
      exact h2
    · obtain rfl : i = n := by omega
      have hall := HB.out
      rw [show i = l.length from HL.out.symm, flOf_all, HL.out] at hall
      have HALL := Lib.hid hall
      clear hall
      go_wp2_with fail
      go_ret
      exact HALL.out.owns HI.out

/-- What adding the terms of a query does. -/
def AddedQ (w : World) (M : Nat) (d : QueryD) (e : Ending) (w' : World) : Prop :=
  ∃ ts, e = .returned (.bool (frzOk d)) ∧ FT w' M ts ∧ (frzOk d = true → (∀ t ∈ d.1, t ∈ ts) ∧ ∀ a ∈ d.2, ∀ t ∈ a.2, t ∈ ts) ∧ OnlyAt [M] w w'
set_option maxRecDepth 100000 in
set_option maxHeartbeats 8000000 in
theorem iAddQuery_any (w : World) (M : Nat) (v : Value) (d : QueryD) (h : RdQuery w v d) (hF : FT w M []) :
    Calls Try.prog 38 #[.map (some M), v] w (AddedQ w M d) := by
  obtain ⟨ha, hn, hc, ba, bn, bc, rfl, h1, h2⟩ := h
  obtain ⟨hl, hnc, hm, hcell⟩ := h2.at
  unfold maxLen at hm
  have HL := Lib.hid hl
  have HC := Lib.hid hcell
  have HHD := Lib.hid h1
  have HF := Lib.hid hF
  have HA := Lib.hid (fun w v l ts h hF hts => iAddAll_any w M v l ts h hF hts)
  have hMw : M < w.heap.size := hF.lt
  clear h1 h2 hcell hl hF
  by_cases h8 : bn ≤ 8
  · have h8' : ¬ (8 : Int) < bn := by omega
    go_enter Try.func38, Try.ntmps38
    go_wp2_with fail
    have q0 : (w.alloc (.cells #[.slice ha hn hc, .slice ba bn bc] 35)).cell? ⟨w.heap.size, 0, none⟩ = some (.slice ha hn hc) := by simp
    have q1 : (w.alloc (.cells #[.slice ha hn hc, .slice ba bn bc] 35)).cell? ⟨w.heap.size, 1, none⟩ = some (.slice ba bn bc) := by simp
    have HBW := Lib.hid (below_alloc w (.cells #[.slice ha hn hc, .slice ba bn bc] 35))
    have HFW := Lib.hid (HF.out.below HBW.out)
    obtain ⟨B, hB⟩ : ∃ x, x = w.heap.size := ⟨_, rfl⟩
    rw [← hB] at q0 q1 hMw
    simp only [← hB]
    have hMB : B ≠ M := by omega
    generalize (w.alloc (.cells #[.slice ha hn hc, .slice ba bn bc] 35)) = W at *
    have HBS := Lib.hid hB
    clear hB
    refine (HA.out _ _ d.1 [] (HHD.out.below HBW.out) HFW.out (by simp)).mono ?_
    rintro e w1 ⟨ts1, rfl, hf1, _, hall1, hlen1, ho1⟩
    replace q0 := ho1.cell (by simpa using hMB) q0
    replace q1 := ho1.cell (by simpa using hMB) q1
    have HO1 := Lib.hid ((OnlyAt.ofBelow [M] HBW.out).same ho1)
    have HF1 := Lib.hid hf1
    have HALL1 := Lib.hid hall1
    have hlen1' : ts1.length ≤ 3 := by simpa using hlen1
    clear hf1 hall1 hlen1 ho1
    cases hth : termsB d.1 with
    | false =>
      have HN := Lib.hid (frz_no1 hth)
      clear hth
      go_wp2_with fail
      go_ret
      exact ⟨ts1, by rw [HN.out]; rfl, HF1.out, (fun h => by rw [HN.out] at h; cases h), HO1.out⟩
    | true =>
      have HTH := Lib.hid hth
      have HALL := Lib.hid (HALL1.out hth)
      have K0 := Lib.hid q0
      have K1 := Lib.hid q1
      clear hth HALL1 q0
      go_wp2_with fail
      clear q1
      go_loopw [21] (fun iv wr => ∃ (i : Nat) (ts : List Int), i ≤ bn ∧ iv = .int .i64 i ∧ (∀ t ∈ ts1, t ∈ ts) ∧ (∀ (j : Nat) a, j < i → d.2[j]? = some a → termsB a.2 = true ∧ ∀ t ∈ a.2, t ∈ ts) ∧ ts.length ≤ 3 + 3 * i ∧ Hid (FT wr M ts) ∧ Hid (OnlyAt [M] w1 wr)) (fun iv _ => bn - (intOf iv).toNat)
      case atStart => exact ⟨0, ts1, by omega, rfl, fun t ht => ht, fun j a hj => by omega, by omega, HF1, Lib.hid (OnlyAt.refl _ _)⟩
      case round =>
        obtain ⟨i, ts, hi, rfl, hsub, hok, hlen, HT, HO⟩ := hrel
        by_cases hlt : i < bn
        · obtain ⟨b, off, rfl, hbw, hc⟩ := HC.out (by omega)
          obtain ⟨e, hd⟩ : ∃ e, d.2[i]? = some e := ⟨d.2[i]'(by rw [HL.out]; exact hlt), List.getElem?_eq_getElem (by rw [HL.out]; exact hlt)⟩
          obtain ⟨ea, em, ec, c0, c1, hdi, hints⟩ := atomAt (n := bn) hc i e hd
          have HOW := Lib.hid (HO1.out.same HO.out)
          have r0 := HOW.out.cell (by simpa using HF.out.ne c0) c0
          have r1 := HOW.out.cell (by simpa using HF.out.ne c1) c1
          have hi0 : (0 : Int) ≤ i := by omega
          have hi1 : (i : Int) < bn := by omega
          have HIN := Lib.hid (HF.out.ints HOW.out hints)
          have HD := Lib.hid hd
          have HOK := Lib.hid hok
          have HSUB := Lib.hid hsub
          clear hc hbw c0 c1 hints hok hdi hd hsub
          go_wp2_with fail
          refine (HA.out _ _ e.2 ts (HIN.out.below (below_alloc _ _)) (HT.out.below (below_alloc _ _)) (by omega)).mono ?_
          rintro e2 w2 ⟨ts2, rfl, hf2, hsub2, hall2, hlen2, ho2⟩
          have HF2 := Lib.hid hf2
          have HALL2 := Lib.hid hall2
          have HSUB2 := Lib.hid hsub2
          have HO2 := Lib.hid (HO.out.same ((OnlyAt.ofBelow [M] (below_alloc _ _)).same ho2))
          clear hf2 hall2 hsub2 ho2
          cases hte : termsB e.2 with
          | false =>
            have HN := Lib.hid (frz_no3 HD.out hte)
            clear hte
            go_wp2_with fail
            go_ret
            exact ⟨ts2, by rw [HN.out]; rfl, HF2.out, (fun h => by rw [HN.out] at h; cases h), HO1.out.same HO2.out⟩
          | true =>
            have HTE := Lib.hid hte
            have HALL3 := Lib.hid (HALL2.out hte)
            clear hte HALL2
            go_wp2_with fail
            exact ⟨⟨i + 1, ts2, by omega, by simp, fun t ht => HSUB2.out t (HSUB.out t ht), fun j a hj ha => by
              rcases Nat.lt_or_ge j i with h1 | h1
              · exact ⟨(HOK.out j a h1 ha).1, fun t ht => HSUB2.out t ((HOK.out j a h1 ha).2 t ht)⟩
              · obtain rfl : j = i := by omega
                rw [HD.out] at ha; cases ha; exact ⟨HTE.out, HALL3.out⟩, by omega, HF2, HO2⟩, by simp [intOf]; omega⟩
        · obtain rfl : i = bn := by omega
          have HYES : Hid (frzOk d = true) := frz_yes HTH.out (by rw [HL.out]; exact h8) (fun j a ha => (hok j a (by have := (List.getElem?_eq_some_iff.1 ha).1; rw [HL.out] at this; exact this) ha).1)
          have HP : Hid ((∀ t ∈ d.1, t ∈ ts) ∧ ∀ a ∈ d.2, ∀ t ∈ a.2, t ∈ ts) := ⟨fun t ht => hsub t (HALL.out t ht), fun a ha t ht => by
            obtain ⟨j, hj⟩ := List.mem_iff_getElem?.1 ha
            exact (hok j a (by have := (List.getElem?_eq_some_iff.1 hj).1; rw [HL.out] at this; exact this) hj).2 t ht⟩
          clear hok hlt hsub
          go_wp2_with fail
          go_ret
          exact ⟨ts, by rw [HYES.out]; rfl, HT.out, (fun _ => HP.out), HO1.out.same HO.out⟩
  · have HN := Lib.hid (frz_no2 (d := d) (by rw [HL.out]; exact h8))
    have h8' : (8 : Int) < bn := by omega
    clear h8
    go_enter Try.func38, Try.ntmps38
    go_wp2_with fail
    have q0 : (w.alloc (.cells #[.slice ha hn hc, .slice ba bn bc] 35)).cell? ⟨w.heap.size, 0, none⟩ = some (.slice ha hn hc) := by simp
    have q1 : (w.alloc (.cells #[.slice ha hn hc, .slice ba bn bc] 35)).cell? ⟨w.heap.size, 1, none⟩ = some (.slice ba bn bc) := by simp
    have HBW := Lib.hid (below_alloc w (.cells #[.slice ha hn hc, .slice ba bn bc] 35))
    have HFW := Lib.hid (HF.out.below HBW.out)
    obtain ⟨B, hB⟩ : ∃ x, x = w.heap.size := ⟨_, rfl⟩
    rw [← hB] at q0 q1 hMw
    simp only [← hB]
    have hMB : B ≠ M := by omega
    generalize (w.alloc (.cells #[.slice ha hn hc, .slice ba bn bc] 35)) = W at *
    have HBS := Lib.hid hB
    clear hB
    go_ret
    exact ⟨[], by rw [HN.out]; rfl, HFW.out, (fun h => by rw [HN.out] at h; cases h), OnlyAt.ofBelow [M] HBW.out⟩
end Go.Proofs.Ytcabgdaloffcdaa
