/- Contract of chapter 8's program: frozenTerms.facts. -/
import Derived.Test.YtcabgdaloffcdaaI8wk
import Derived.Test.YtcabgdaloffcdaaSquery
import Derived.Deep.RegionLaw
import Derived.Test.YtcabgdaloffcdaaApp1D
namespace Go.Proofs.Ytcabgdaloffcdaa
open Go Go.Sort Go.RowKit
open Go.ChangeMaps (setBlock heap_setBlock_same heap_setBlock_other)
set_option linter.unusedVariables false

theorem setBlock_only8 (W : World) (b : Nat) (o : Obj) : OnlyAt [b] W (setBlock W b o) :=
  ⟨rfl, rfl, rfl, by simp [setBlock], fun k _ hn => by simp [setBlock, show ¬ b = k from fun e => hn (by simp [e])]⟩
theorem setBlock_heap8 {W : World} {b : Nat} {o o' : Obj} (h : W.heap[b]? = some o) : (setBlock W b o').heap[b]? = some o' := by
  unfold setBlock; simp [(Array.getElem?_eq_some_iff.1 h).1]
theorem take_snocA {l : List AtomD} {i : Nat} {a : AtomD} (h : l[i]? = some a) : l.take (i + 1) = l.take i ++ [a] := by
  obtain ⟨hi, rfl⟩ := List.getElem?_eq_some_iff.1 h
  exact List.take_succ_eq_append_getElem hi

set_option maxRecDepth 100000 in
set_option maxHeartbeats 16000000 in
theorem iFacts8_any (w : World) (M : Nat) (v : Value) (l : List AtomD) (ts : List Int) (h : RdAtomS w v l) (hF : FT w M ts) (hin : ∀ a ∈ l, ∀ t ∈ a.2, t ∈ ts) (ht : ∀ a ∈ l, termsB a.2 = true) (h8 : l.length ≤ 8) :
    Calls Try.prog 39 #[.map (some M), v] w (GaveO (fun w' v' bs => ROAtomS w' v' (frzTo l l.length) bs) w) := by
  obtain ⟨a, n, cap, rfl, hr⟩ := h
  obtain ⟨hl, hnc, hm, hcell⟩ := hr.at
  unfold maxLen at hm
  rw [hl] at h8
  have HL := Lib.hid hl
  have HC := Lib.hid hcell
  have HF := Lib.hid hF
  have HIN := Lib.hid hin
  have HTE := Lib.hid ht
  have H3 : Hid (∀ a ∈ l, a.2.length ≤ 3) := fun a ha => terms_len3 (ht a ha)
  have HPK := Lib.hid (fun w r v l h => iPack_any w r v l h)
  have HVA := Lib.hid (fun w v l h hF hin ht => iValues_any w M v l ts h hF hin ht)
  have hMw : M < w.heap.size := hF.lt
  have hmm := @run_makeMap Try.prog
  clear hr hcell hl hF hin ht
  go_enter Try.func39, Try.ntmps39
  go_wp2_with fail
  clear hmm
  have HB0 := Lib.hid (below_alloc w (.map #[] 0))
  have HM0 : Hid ((w.alloc (.map #[] 0)).heap[w.heap.size]? = some (.map #[] 0)) := heap_alloc_new w _
  obtain ⟨B, hB⟩ : ∃ x, x = w.heap.size := ⟨_, rfl⟩
  have HBS := Lib.hid hB
  rw [← hB] at HM0
  simp only [← hB]
  generalize (w.alloc (.map #[] 0)) = W at *
  clear hB
  go_loopw [14] (fun iv wr => ∃ i : Nat, i ≤ n ∧ iv = .int .i64 i ∧ ∃ es clock, Hid (wr.heap[B]? = some (.map es clock)) ∧ Hid (Keyed8 Try.prog 78 es clock) ∧ Hid (AtsOf w (l.take i) es) ∧ Hid (Below w.heap.size w wr) ∧ Hid (B < wr.heap.size)) (fun iv _ => n - (intOf iv).toNat)
  case atStart => exact ⟨0, by omega, rfl, #[], 0, HM0, Lib.hid (Keyed8.empty _ _ _), Lib.hid (AtsOf.nil w), HB0, Lib.hid (Array.getElem?_eq_some_iff.1 HM0.out).1⟩
  case round =>
    obtain ⟨i, hi, rfl, es, clock, HM, HK, HA, HB, HBL⟩ := hrel
    by_cases hlt : i < n
    · obtain ⟨b, off, rfl, hbw, hc⟩ := HC.out (by omega)
      obtain ⟨e, hd⟩ : ∃ e, l[i]? = some e := ⟨l[i]'(by rw [HL.out]; exact hlt), List.getElem?_eq_getElem (by rw [HL.out]; exact hlt)⟩
      obtain ⟨ea, em, ec, c0, c1, hdi, hints⟩ := atomAt (n := n) hc i e hd
      have r0 := cellk HB.out c0
      have r1 := cellk HB.out c1
      have hi0 : (0 : Int) ≤ i := by omega
      have hi1 : (i : Int) < n := by omega
      have hel : e ∈ l := List.mem_of_getElem? hd
      have he3 := H3.out e hel
      have HTK := Lib.hid (take_snocA hd)
      have HVAL : Hid (RdAtom w (.agg #[.int .i64 e.1, .slice ea em ec]) e) := ⟨ea, em, ec, rfl, hdi, hints⟩
      obtain ⟨kl, hkl⟩ := pkV_key hdi he3 hints.1
      have HKL := Lib.hid hkl
      have HNEW := Lib.hid (fun es2 h => AtsOf.put (es2 := es2) HA.out (fun a ha => H3.out a (List.mem_of_mem_take ha)) he3 HVAL.out h)
      have HPA := Lib.hid (fun w0 (hb : Below w.heap.size w w0) => HPK.out w0 e.1 (.slice ea em ec) e.2 (hints.below hb))
      have HPE : Hid (packed e.1 e.2.length e.2 = pkV e) := rfl
      rw [HPE.out] at HPA
      generalize pkV e = kv at *
      generalize e.1 = r at *
      clear hc hbw c0 c1 hints hdi hel he3 hkl HVAL hd
      go_wp2_with fail
      have HBx := Lib.hid (below_alloc wr (.cells #[.int .i64 r, .slice ea em ec] 57))
      have k0 : (wr.alloc (.cells #[.int .i64 r, .slice ea em ec] 57)).cell? ⟨wr.heap.size, 0, none⟩ = some (.int .i64 r) := by simp
      have k1 : (wr.alloc (.cells #[.int .i64 r, .slice ea em ec] 57)).cell? ⟨wr.heap.size, 1, none⟩ = some (.slice ea em ec) := by simp
      have HMx : Hid ((wr.alloc (.cells #[.int .i64 r, .slice ea em ec] 57)).heap[B]? = some (.map es clock)) := (HBx.out.block B HBL.out).trans HM.out
      have HBWx := Lib.hid (bnext HB.out HBx.out)
      generalize (wr.alloc (.cells #[.int .i64 r, .slice ea em ec] 57)) = wx at *
      have hbl2 := HBL.out
      have hsx := HBx.out.size
      go_region_law (go_simp; go_at_call 56; refine (HPA.out _ (bnext HBWx.out ((Below.refl _ _).drew))).mono ?_; rintro e2 w2 ⟨rfl, hb2⟩; have HB2 := Lib.hid (bnext (Below.refl wx.heap.size wx).drew hb2); have HM2 : Hid (w2.heap[B]? = some (.map es clock)) := (HB2.out.block B (by omega)).trans HMx.out; replace k0 := cellk HB2.out k0; replace k1 := cellk HB2.out k1; clear hb2; obtain ⟨es2, clock2, hrun, hk2, hput⟩ := put_law (val := .agg #[.int .i64 r, .slice ea em ec]) packLaw Try.underlying75 HM2.out HK.out HKL.out; have HPUT := Lib.hid hput; have HK2 := Lib.hid hk2; clear hput hk2)
      all_goals (go_wp2_with fail)
      all_goals exact ⟨⟨i + 1, by omega, by simp, es2, clock2, Lib.hid (setBlock_heap8 HM2.out), HK2, by rw [HTK.out]; exact HNEW.out es2 HPUT.out, Lib.hid (OnlyAt.below (bnext HBWx.out HB2.out) (setBlock_only8 _ _ _) (fun x hx => by simp at hx; rw [hx, HBS.out]; exact Nat.le_refl _)), by have := HB2.out.size; exact Lib.hid (by simp [setBlock]; omega)⟩, by simp [intOf]; omega⟩
    · obtain rfl : i = n := by omega
      have HAL : Hid (AtsOf w l es) := by
        have h := HA.out
        rw [List.take_of_length_le (by rw [HL.out]; exact Nat.le_refl _)] at h
        exact h
      have HESL : Hid (es.toList.length ≤ 8) := by have := HAL.out.len; have := HL.out; exact Lib.hid (by omega)
      have h1' := HM.out
      have hk' := HK.out
      have hBl := HBL.out
      clear hlt HA
      go_wp2_with ((with_reducible refine wpList_range8 _ rfl _ _ _ _ rfl Try.underlying75 _ es clock rfl h1' hk' ?_); (intro w6 hwk hb6 hs6))
      go_simp
      obtain ⟨r, hr⟩ : ∃ r, r = wr.heap.size := ⟨_, rfl⟩
      rw [← hr] at hwk ⊢
      have hBr : B ≠ r := by omega
      have hBr2 : B < r := by omega
      have hrs : r < w6.heap.size := by omega
      have hwr' : w.heap.size ≤ r := by have := HB.out.size; omega
      have HB6 := Lib.hid (bnext HB.out hb6)
      clear hr hb6 hs6 h1' hk' hBl
      go_loopw [8] (fun ov wq => ∃ gone bss, Walk8 Try.prog 78 wq B r es clock gone ∧ OutF w6.heap.size wq ov (gone.map (fun e => fct8 (decK e.key))) bss ∧ OnlyAt [r] w6 wq)
        (fun _ wq => goneOf8 wq r es.size)
      case atStart => exact ⟨[], [], hwk, OutF.nil w6, OnlyAt.refl _ _⟩
      case round =>
        obtain ⟨gone, bss, hwq, hout, hon⟩ := hrel
        obtain ⟨wq, hwq'⟩ : ∃ x, x = wr := ⟨_, rfl⟩
        subst hwq'
        go_wp2_with ((with_reducible refine wpList_next8 _ rfl _ rfl 78 B r es clock gone rfl hBr hwq ?_ ?_))
        · intro hperm
          have hb67 : Below w.heap.size w wq := OnlyAt.below HB6.out hon (by intro x hx; simp at hx; omega)
          have hlen : (gone.map (fun e => fct8 (decK e.key))).length ≤ 331776 := by rw [List.length_map, hperm.length_eq]; have := HESL.out; omega
          have hSO := Lib.hid (iSortF_any w wq _ _ _ (hout.to HB6.out.size hb67) hlen)
          have HP := Lib.hid hperm
          clear hperm hb67 hlen hout hon hwq
          go_wp2_with fail
          refine hSO.out.mono ?_
          rintro e w8 ⟨rfl, l', bss', ho, hp, hs, ko⟩
          have HFN : Hid (l' = frzTo l l.length) := facts_fin HAL.out HTE.out HP.out hp hs
          obtain ⟨bs, b1, b2⟩ := ho.done
          rw [HFN.out] at b1
          have HB1 := Lib.hid b1
          have HB2 := Lib.hid b2
          have HBW := Lib.hid ho.below
          clear ho hp hs ko b1 b2
          go_wp2_with fail
          go_ret
          exact ⟨_, bs, rfl, HB1.out, HB2.out, HBW.out⟩
        · intro e w7 he hlt hw7 ho7
          obtain ⟨e0, hal, ek, hrd⟩ := HAL.out.at (by simpa using he)
          have hen := hw7.entry
          obtain ⟨ea, em, ec, ev, hdi, hints⟩ := hrd
          have HD : Hid (fct8 (decK e.key) = fct8 e0) := by unfold Hid; rw [ek, decK_pk (H3.out e0 hal)]
          rw [ek, ev] at hen ⊢
          generalize pkV e0 = kv at hen ⊢
          have hout7 := Lib.hid (hout.only ho7 (by simpa using hrs))
          have HON7 := Lib.hid (hon.same ho7)
          have HB7 : Hid (Below w.heap.size w w7) := OnlyAt.below HB6.out HON7.out (by intro x hx; simp at hx; omega)
          have HW7 := Lib.hid hw7
          have HWR := Lib.hid hwq
          have HLT := Lib.hid hlt
          have HDI := Lib.hid hdi
          have HV7 := Lib.hid (fun w0 (hb : Below w7.heap.size w7 w0) => HVA.out w0 (.slice ea em ec) e0.2 (hints.below (bnext HB7.out hb)) (HF.out.below (bnext HB7.out hb)) (HIN.out e0 hal) (HTE.out e0 hal))
          obtain ⟨W0, hW0, hoc⟩ := hout7.out
          obtain ⟨cs, hc1, hc2⟩ := hoc.parts
          have HW0 := Lib.hid hW0
          have HOC := Lib.hid hoc
          have HC1 := Lib.hid hc1
          have HC2 := Lib.hid hc2
          obtain ⟨ov, hov⟩ : ∃ ov, ov = u8 := ⟨_, rfl⟩
          rw [← hov] at HOC HC1 ⊢
          obtain ⟨L, hL⟩ : ∃ L, L = gone.map (fun e => fct8 (decK e.key)) := ⟨_, rfl⟩
          rw [← hL] at HOC HC1 HC2
          have HL8 := Lib.hid hL
          have hN : L.length + 1 ≤ 1099511627776 := by
            have := HLT.out; have := HESL.out; have e1 : es.toList.length = es.size := Array.length_toList; rw [hL, List.length_map]; omega
          have HE0 : Hid (fct8 e0 = (e0.1, e0.2.map val8)) := rfl
          rw [HE0.out] at HD
          generalize e0.2.map val8 = vl at *
          generalize e0.1 = rr at *
          clear hw7 hdi hlt ho7 hout hon hwq hal ek ev he hints hoc hc1 hc2 hW0 hout7 hov hL
          go_wp2_with fail
          have HBx := Lib.hid (below_alloc w7 (.cells #[.int .i64 rr, .slice ea em ec] 57))
          have k0 : (w7.alloc (.cells #[.int .i64 rr, .slice ea em ec] 57)).cell? ⟨w7.heap.size, 0, none⟩ = some (.int .i64 rr) := by simp
          have k1 : (w7.alloc (.cells #[.int .i64 rr, .slice ea em ec] 57)).cell? ⟨w7.heap.size, 1, none⟩ = some (.slice ea em ec) := by simp
          have hsx := HBx.out.size
          clear hen
          generalize (w7.alloc (.cells #[.int .i64 rr, .slice ea em ec] 57)) = wx at *
          go_region_law (first
            | (refine step_app1D (by rfl) (.tmp 29) (.tmp 37) 40 (by rfl) 59 (.agg #[.int .i64 0, .slice none 0 0]) 2 32 Try.underlying40 info_Fact (by decide) (by decide) (by rfl) ov L.length cs (by rfl) (HC1.out.grow (bnext HB9.out (below_alloc w9 _))) w9.heap.size [.int .i64 rr, .slice va vn vc] (by rfl) (by simp [Value.oneCell']) (by rfl) (heap_alloc_new w9 _) hN ?_; intro g' cap' w10 hown' ko hbl; have HNEW := Lib.hid (OutInv.step HOC.out HC1.out HC2.out HB9.out (below_alloc w9 _) HOB.out HFB.out HDI.out hown' ko (fun b hb => (hbl b hb).imp id (fun e => by rw [e]; exact Nat.le_refl _))); have HKO := Lib.hid ko; clear hown' ko hbl)
            | (go_simp; go_at_call 40; refine (HV7.out _ (bnext HBx.out ((Below.refl _ _).drew))).mono ?_; rintro e9 w9 ⟨vb, bsb, rfl, hob, hfb, hbb⟩; obtain ⟨va, vn, vc, rfl⟩ := hob.1.shape; have HBX9 := Lib.hid (bnext (Below.refl wx.heap.size wx).drew hbb); have HB9 := Lib.hid (bnext HBx.out HBX9.out); have HOB := Lib.hid hob; have HFB := Lib.hid (hfb.wide hsx (Nat.le_refl _) : Fresh w7 w9 bsb); replace k0 := cellk HBX9.out k0; replace k1 := cellk HBX9.out k1; clear hob hfb hbb))
          all_goals (go_wp2_with fail)
          all_goals (try simp only [List.getElem_toArray, List.getElem_cons_succ, List.getElem_cons_zero, Act.put])
          all_goals (try go_simp)
          all_goals
            have hbf := HOC.out.blk_lo8
            have hnot : ∀ k, k < w6.heap.size → k ∉ blk ov := fun k hk hm => by have := (hbf k hm).1; have := HW0.out; omega
            have hb9a := bnext HB9.out (below_alloc w9 (.cells #[.int .i64 rr, .slice va vn vc] 59))
            have hs7 := HON7.out.size
            have hkeep : ∀ k, k < w6.heap.size → w10.heap[k]? = w7.heap[k]? := fun k hk =>
              (HKO.out.block k (by have := hb9a.size; omega) (hnot k hk)).trans (hb9a.block k (by omega))
            have hnew : Walk8 Try.prog 78 w10 B r es clock (gone ++ [e]) := HW7.out.grow (hkeep _ (by omega)) (hkeep _ hrs)
            have hon10 := (HON7.out.same (OnlyAt.ofBelow _ hb9a)).above HKO.out (fun b hm => by have := (hbf b hm).1; have := HW0.out; omega)
            refine ⟨⟨gone ++ [e], hnew, ⟨bss ++ [bsb], ?_⟩, hon10⟩, ?_⟩
            · rw [List.map_append, ← HL8.out]
              simp only [List.map_cons, List.map_nil]
              rw [HD.out]
              exact ⟨W0, HW0.out, HNEW.out⟩
            · rw [hnew.meas, HWR.out.meas]
              have := HLT.out
              simp at *
              omega
end Go.Proofs.Ytcabgdaloffcdaa
