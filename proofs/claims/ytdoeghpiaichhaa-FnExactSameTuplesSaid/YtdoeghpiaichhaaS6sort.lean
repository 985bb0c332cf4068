/- Contract of chapter 6's spec: l6Sort. -/
import Derived.Test.YtdoeghpiaichhaaS6data
import Derived.Test.YtdoeghpiaichhaaMintss
import Derived.Test.YtdoeghpiaichhaaAppInts
namespace Go.Proofs.Ytdoeghpiaichhaa
open Go Go.Sort Go.RowKit
set_option linter.unusedVariables false

theorem take_insAt {α : Type} {cs : List α} {k : Nat} (x : α) {j : Nat} {u : α} (hk : k ≤ j) (h : cs[j]? = some u) : (cs.take k ++ (x :: (cs.drop k).take (j - k))) ++ [u] = cs.take k ++ (x :: (cs.drop k).take (j + 1 - k)) := by
  obtain ⟨hj, rfl⟩ := List.getElem?_eq_some_iff.1 h
  have e : (cs.drop k).take (j + 1 - k) = (cs.drop k).take (j - k) ++ [cs[j]] := by
    rw [show j + 1 - k = (j - k) + 1 from by omega, List.take_succ_eq_append_getElem (by simp; omega)]
    congr 2
    simp only [List.getElem_drop]
    congr 1; omega
  rw [e]; simp
theorem take_next {α : Type} {cs : List α} {j : Nat} {u : α} (h : cs[j]? = some u) : cs.take j ++ [u] = cs.take (j + 1) := by
  obtain ⟨hj, rfl⟩ := List.getElem?_eq_some_iff.1 h
  rw [List.take_succ_eq_append_getElem hj]
theorem step_no {once : Bool} {out : List (List Int)} {x : List Int} {K : Nat} (hK : posK x out out.length = K) (h : once = false ∨ K = 0 ∨ out.getD (K - 1) [] ≠ x) : sortStep once out x = insAt K x out := by
  unfold sortStep
  rw [hK, if_neg]
  intro hc
  rw [Bool.and_eq_true, Bool.and_eq_true] at hc
  have h1 := of_decide_eq_true hc.2.1
  have h2 := of_decide_eq_true hc.2.2
  rcases h with h | h | h
  · rw [h] at hc; exact absurd hc.1 (by decide)
  · omega
  · exact h h2
theorem step_yes {out : List (List Int)} {x : List Int} {K : Nat} (hK : posK x out out.length = K) (h0 : 0 < K) (h : out.getD (K - 1) [] = x) : sortStep true out x = out := by
  unfold sortStep
  rw [hK, decide_eq_true h0, decide_eq_true h]; rfl

set_option maxRecDepth 100000 in
set_option maxHeartbeats 32000000 in
theorem sSort6_any (w : World) (v : Value) (l : List (List Int)) (once : Bool) (h : RdIntSS w v l) (hz : ∀ x ∈ l, x.length ≤ 1048576) (hz2 : l.length ≤ 1000000000) :
    Calls Try.prog 35 #[v, .bool once] w (GaveO (fun w' v' bs => ROIntSS w' v' (sortL l once) bs) w) := by
  obtain ⟨a, n, c, rfl, h⟩ := h
  obtain ⟨hl, hn, hm, hcell⟩ := h.at
  unfold maxLen at hm
  rw [hl] at hz2
  have HC := Lib.hid hcell
  have HL := Lib.hid hl
  have HZ := Lib.hid hz
  have hLe := Lib.hid (fun w v v' l l' a b => sLess_any w v v' l l' a b)
  have hEq := Lib.hid (fun w v v' l l' a b => sInts_any w v v' l l' a b)
  have HLIT := Lib.hid (OutII.lit 22 w w (Below.refl _ _))
  clear h hcell hl hz
  go_enter Try.func35, Try.ntmps35
  go_wp2_with fail
  go_loopw [5, 6] (fun ov iv wr => ∃ i : Nat, i ≤ n ∧ iv = .int .i64 i ∧ ∃ bss, Hid (OutII 22 w wr ov (sortTo l once i) bss)) (fun _ iv _ => n - (intOf iv).toNat)
  case atStart => exact ⟨0, by omega, rfl, [], by simpa [sortTo] using HLIT⟩
  case round =>
    obtain ⟨i, hi, rfl, bss, HP⟩ := hrel
    obtain ⟨wO, hwO⟩ : ∃ x, x = wr := ⟨_, rfl⟩
    subst hwO
    obtain ⟨ov, hov⟩ : ∃ ov, ov = u5 := ⟨_, rfl⟩
    subst hov
    have hbq := HP.out.below
    have hlenT := sortTo_len l once i
    by_cases hlt : i < n
    · obtain ⟨b, off, rfl, hbw, hc⟩ := HC.out (by omega)
      obtain ⟨x, hd⟩ : ∃ e, l[i]? = some e := ⟨l[i]'(by rw [HL.out]; exact hlt), List.getElem?_eq_getElem (by rw [HL.out]; exact hlt)⟩
      obtain ⟨ea, em, ec, c1, hints⟩ := intsAt (n := n) hc i x hd
      have HNX := Lib.hid (sortTo_next (once := once) hd)
      have hi0 : (0 : Int) ≤ i := by omega
      have hi1 : (i : Int) < n := by omega
      have E1 := Lib.hid (cellk hbq c1)
      have HX := Lib.hid (hints.below hbq)
      have hxz : x.length ≤ 1048576 := HZ.out x (List.mem_of_getElem? hd)
      obtain ⟨⟨cs, hc1, hc2⟩, hp2, hp3⟩ := HP.out
      generalize sortTo l once i = L at *
      obtain ⟨oa, oc, rfl, hoa, hoc⟩ : ∃ oa oc, ov = .slice oa L.length oc ∧ (0 < L.length → ∃ g, oa = some ⟨g, 0, none⟩) ∧ oc ≤ maxLen := by
        rcases hc1.form with ⟨rfl, h0⟩ | ⟨g, cap, rfl, h1, h2⟩
        · exact ⟨none, 0, by rw [h0], fun h => by omega, Nat.zero_le _⟩
        · exact ⟨_, cap, rfl, fun _ => ⟨g, rfl⟩, h2⟩
      obtain ⟨m, hmL⟩ : ∃ m, L.length = m := ⟨_, rfl⟩
      obtain ⟨K, hK⟩ : ∃ K, posK x L L.length = K := ⟨_, rfl⟩
      have hKm : K ≤ m := by rw [← hK, ← hmL]; exact posK_le _ _ _
      have HDOWN : Hid (∀ k, K < k → k ≤ m → lessB x (L.getD (k - 1) []) = true) := fun k h1 h2 => by rw [← hK] at h1; rw [← hmL] at h2; exact posK_down k h1 h2
      have HSTOP : Hid (0 < K → lessB x (L.getD (K - 1) []) = false) := fun h0 => by rw [← hK] at h0 ⊢; exact posK_stop h0
      have HNO : Hid (once = false ∨ K = 0 ∨ L.getD (K - 1) [] ≠ x → sortTo l once (i + 1) = insAt K x L) := fun h => by rw [HNX.out]; exact step_no hK h
      have HYES : Hid (once = true → 0 < K → L.getD (K - 1) [] = x → sortTo l once (i + 1) = L) := fun h1 h2 h3 => by rw [HNX.out, h1]; exact step_yes hK h2 h3
      have HEL : Hid (∀ j, j < m → ∃ g pa pm pc, oa = some ⟨g, 0, none⟩ ∧ cs[j]? = some (.slice pa pm pc) ∧ wO.cell? ⟨g, j, none⟩ = some (.slice pa pm pc) ∧ Ints wO (.slice pa pm pc) (L.getD j [])) := by
        intro j hj
        have hjL : j < L.length := by omega
        obtain ⟨g, rfl⟩ := hoa (by omega)
        obtain ⟨pa, pm, pc, q1, q2⟩ := hc2.2 j L[j] (List.getElem?_eq_getElem hjL)
        have q3 : L.getD j [] = L[j] := by simp [List.getD, List.getElem?_eq_getElem hjL]
        exact ⟨g, pa, pm, pc, rfl, q1, by rw [hc1.cell j (by omega)]; exact q1, by rw [q3]; exact q2.1⟩
      have HC1 := Lib.hid hc1
      have HC2 := Lib.hid hc2
      have HML := Lib.hid hmL
      have HCL : Hid (cs.length = m) := by have := hc1.len; unfold Hid; omega
      unfold maxLen at hoc
      rw [hmL] at HP ⊢
      have HBQ := Lib.hid hbq
      have hmi : m ≤ i := by omega
      clear hc hbw hd c1 hints hbq hc1 hc2 hp2 hp3 hoa hK hmL HNX hlenT
      go_wp2_with fail
      go_loopw [7] (fun kv wk => ∃ k : Nat, K ≤ k ∧ k ≤ m ∧ kv = .int .i64 k ∧ Below wO.heap.size wO wk) (fun kv _ => (intOf kv).toNat)
      case atStart => exact ⟨m, hKm, Nat.le_refl _, rfl, Below.refl _ _⟩
      case round =>
        obtain ⟨k, hk1, hk2, rfl, hbk⟩ := hrel
        obtain ⟨wk, hwk⟩ : ∃ x, x = wr := ⟨_, rfl⟩
        subst hwk
        have HBK := Lib.hid hbk
        by_cases hkk : K < k
        · obtain ⟨k', rfl⟩ : ∃ k', k = k' + 1 := ⟨k - 1, by omega⟩
          obtain ⟨g, pa, pm, pc, rfl, q1, q2, q3⟩ := HEL.out k' (by omega)
          have hle := HDOWN.out (k' + 1) hkk hk2
          rw [show k' + 1 - 1 = k' from rfl] at hle
          have r1 := cell_regrown (w := wk) (cellk hbk E1.out)
          have r2 := cell_regrown (w := wk) (cellk hbk q2)
          have e1 : (((k' + 1 : Nat)) : Int) - 1 = k' := by omega
          have e2 : (0 : Int) < ((k' + 1 : Nat) : Int) := by omega
          have e3 : (0 : Int) ≤ k' := by omega
          have e4 : (k' : Int) < m := by omega
          have hcall := Lib.hid (fun dn os => hLe.out (grow (redrawn wk dn) os) (.slice ea em ec) (.slice pa pm pc) x (L.getD k' []) (HX.out.below (hbk.trans ((below_regrown wk dn os).mono hbk.size))) (q3.below (hbk.trans ((below_regrown wk dn os).mono hbk.size))))
          rw [hle] at hcall
          clear hbk q1 q2 q3 hle
          go_wp2_with fail
          refine wp_region_quiet_below (by kernel_rfl) (by kernel_rfl) ?_
          repeat (any_goals (first | go_big_quiet_step ((go_at_call 51; exact Calls.regrown_of (hcall.out _ _))) | quiet_step ((go_at_call 51; exact Calls.regrown_of (hcall.out _ _)))))
          refine wpQuiet_nil ?_
          intro _ hw'
          obtain ⟨⟨dq, osq⟩, hw''⟩ := hw'
          subst hw''
          go_wp2_with fail
          exact ⟨⟨k', by omega, by omega, by simp, bnext HBK.out (below_regrown _ _ _)⟩, by simp [intOf]⟩
        · obtain rfl : k = K := by omega
          clear hkk hk1 hk2 HDOWN
          by_cases hK0 : k = 0
          · have HST := Lib.hid (HNO.out (.inr (.inl hK0)))
            clear HNO HYES HSTOP
            obtain rfl := hK0
            have e0 : ((0 : Int) < ((0 : Nat) : Int)) = False := by simp
            go_wp2_with fail
            refine wp_region_quiet_below (by kernel_rfl) (by kernel_rfl) ?_
            repeat (any_goals (first | go_big_quiet_step (fail) | quiet_step (fail)))
            refine wpQuiet_nil ?_
            intro _ hw'
            obtain ⟨⟨dq, osq⟩, hw''⟩ := hw'
            subst hw''
            go_wp2_with fail
            cases once
            all_goals
              skip
              refine wp_region_quiet_below (by kernel_rfl) (by kernel_rfl) ?_
              repeat (any_goals (first | go_big_quiet_step (fail) | quiet_step (fail)))
              refine wpQuiet_nil ?_
              intro _ hw'
              obtain ⟨⟨dr, osr⟩, hw''⟩ := hw'
              subst hw''
              have HBY := Lib.hid (bnext HBK.out (bnext (below_regrown wk dq osq) (below_regrown _ dr osr)))
              generalize grow (redrawn (grow (redrawn wk dq) osq) dr) osr = wy at *
              have HLX : Hid (BuiltC 22 1 wy (wy.alloc (.cells #[] 22)) (.slice (some ⟨wy.heap.size, 0, none⟩) 0 0) 0 (cs.take 0)) := BuiltC.lit 22 1 wy wy 0 [] (Nat.zero_le _) rfl (Below.refl _ _)
              go_wp2_with fail
              go_loopw [8, 9] (fun xv jv wj => ∃ j : Nat, j ≤ 0 ∧ jv = .int .i64 j ∧ Hid (BuiltC 22 1 wy wj xv j (cs.take j))) (fun _ jv _ => 0 - (intOf jv).toNat)
              case atStart => exact ⟨0, by omega, rfl, HLX⟩
              case round =>
                obtain ⟨j, hj, rfl, HXV⟩ := hrel
                obtain ⟨wj, hwj⟩ : ∃ x, x = wr := ⟨_, rfl⟩
                subst hwj
                obtain ⟨xv, hxv⟩ : ∃ xv, xv = u8 := ⟨_, rfl⟩
                subst hxv
                by_cases hjk : j < 0
                · exact absurd hjk (by omega)
                · obtain rfl : 0 = j := by omega
                  have rx := cellk (bnext HBY.out HXV.out.2) E1.out
                  have HXJ := Lib.hid (HX.out.below (bnext HBY.out HXV.out.2))
                  have rxa := cellk (below_alloc wj (.cells #[] 3)) rx
                  have HXA := Lib.hid (HXJ.out.below (below_alloc wj (.cells #[] 3)))
                  have hlit : Built .i64 3 wj (wj.alloc (.cells #[] 3)) (.slice (some ⟨wj.heap.size, 0, none⟩) 0 0) [] := by
                    have := Built.lit .i64 3 wj wj [] (Nat.zero_le _) (Below.refl _ _)
                    simpa using this
                  have HLI := Lib.hid hlit
                  clear hjk hj hlit
                  go_wp2_with (at_builtin; refine wpList_appInts rfl (.tmp 67) (.tmp 71) 22 rfl 3 Try.underlying22 info_i64 _ [] rfl HLI.out _ x rfl HXA.out (by simp; omega) ?_)
                  intro v1 w1 hb1
                  obtain ⟨bsx, ho1, hnx, hfx⟩ := OInts.ofBuilt hb1 (by simpa using HXA.out.1)
                  obtain ⟨va, vn, vc, rfl⟩ := ho1.1.shape
                  have ho1' : OInts w1 (.slice va vn vc) x bsx := by simpa using ho1
                  have HO1 := Lib.hid ho1'
                  clear ho1'
                  have HFX := Lib.hid hfx
                  have HNXD := Lib.hid hnx
                  have HXV1 := Lib.hid (HXV.out.grow hb1.below)
                  have hlx := blk_lt HXV.out
                  have HLX2 : Hid (∀ b ∈ bsx, b ∉ blk xv) := fun b hb hm => by have := hlx b hm; have := (hfx b hb).1; omega
                  have HS1 := Lib.hid HXV.out.2.size
                  clear hb1 ho1 hnx hfx hlx rx rxa
                  go_wp2_with (at_builtin; refine wpList_app1D rfl (.tmp 66) (.tmp 73) 47 rfl 22 (.slice none 0 0) 1 24 Try.underlying47 info_IntSl (by decide) (by decide) (by rfl) xv 0 (cs.take 0) rfl HXV1.out [.slice va vn vc] rfl (by simp [Value.oneCell']) (by first | rfl | (simp; rfl)) (by omega) ?_)
                  intro v2 w2 hown2 ko2 hbl2
                  have HX2 : Hid (BuiltC 22 1 wy w2 v2 (0 + 1) (cs.take 0 ++ (.slice va vn vc :: (cs.drop 0).take (0 - 0)))) := by
                    unfold Hid; rw [Nat.sub_self]; exact hown2
                  have HO2 : Hid (OInts w2 (.slice va vn vc) x bsx) := HO1.out.onlyAt ko2 HLX2.out
                  have HF2 : Hid (∀ b ∈ bsx, wy.heap.size ≤ b ∧ b < w2.heap.size ∧ b ∉ blk v2) := fun b hb => by
                    have h1 := HFX.out b hb
                    have h2 := HS1.out
                    have h3 := ko2.size
                    refine ⟨by omega, by omega, fun hm => ?_⟩
                    rcases hbl2 b hm with h4 | h4
                    · exact HLX2.out b hb h4
                    · omega
                  clear hown2 ko2 hbl2
                  go_wp2_with fail
                  go_loopw [8, 10] (fun xv jv wj => ∃ j : Nat, 0 ≤ j ∧ j ≤ m ∧ jv = .int .i64 j ∧ Hid (BuiltC 22 1 wy wj xv (j + 1) (cs.take 0 ++ (.slice va vn vc :: (cs.drop 0).take (j - 0)))) ∧ Hid (OInts wj (.slice va vn vc) x bsx) ∧ Hid (∀ b ∈ bsx, wy.heap.size ≤ b ∧ b < wj.heap.size ∧ b ∉ blk xv)) (fun _ jv _ => m - (intOf jv).toNat)
                  case atStart => exact ⟨0, Nat.le_refl _, hKm, rfl, HX2, HO2, HF2⟩
                  case round =>
                    obtain ⟨j, hj1, hj2, rfl, HXW, HOW, HFW⟩ := hrel
                    obtain ⟨wl, hwl⟩ : ∃ x, x = wr := ⟨_, rfl⟩
                    subst hwl
                    obtain ⟨xw, hxw⟩ : ∃ xw, xw = u8 := ⟨_, rfl⟩
                    subst hxw
                    by_cases hjm : j < m
                    · obtain ⟨g2, pa, pm, pc, hg2, q1, q2, q3⟩ := HEL.out j hjm
                      cases hg2
                      have r2 := cellk (bnext HBY.out HXW.out.2) q2
                      have HQ1 := Lib.hid (take_insAt (.slice va vn vc) hj1 q1)
                      have e1 : (0 : Int) ≤ j := by omega
                      have e3 : (j : Int) < m := by omega
                      clear q1 q2 q3
                      go_wp2_with (at_builtin; refine wpList_app1D rfl (.tmp 82) (.tmp 87) 47 rfl 22 (.slice none 0 0) 1 24 Try.underlying47 info_IntSl (by decide) (by decide) (by rfl) xw (j + 1) _ rfl HXW.out [.slice pa pm pc] rfl (by simp [Value.oneCell']) (by first | rfl | (simp; rfl)) (by omega) ?_)
                      intro v3 w3 hown3 ko3 hbl3
                      have HX3 : Hid (BuiltC 22 1 wy w3 v3 (j + 1 + 1) (cs.take 0 ++ (.slice va vn vc :: (cs.drop 0).take (j + 1 - 0)))) := by
                        unfold Hid; rw [← HQ1.out]; first | exact hown3 | (rw [List.append_assoc, List.cons_append]; exact hown3)
                      have HO3 : Hid (OInts w3 (.slice va vn vc) x bsx) := HOW.out.onlyAt ko3 (fun b hb => (HFW.out b hb).2.2)
                      have HF3 : Hid (∀ b ∈ bsx, wy.heap.size ≤ b ∧ b < w3.heap.size ∧ b ∉ blk v3) := fun b hb => by
                        have h1 := HFW.out b hb
                        have h3 := ko3.size
                        refine ⟨h1.1, by omega, fun hm => ?_⟩
                        rcases hbl3 b hm with h4 | h4
                        · exact h1.2.2 h4
                        · omega
                      clear hown3 ko3 hbl3 r2
                      go_wp2_with fail
                      exact ⟨⟨j + 1, by omega, by omega, by simp, HX3, HO3, HF3⟩, by simp [intOf]; omega⟩
                    · obtain rfl : j = m := by omega
                      have hdn : (cs.drop 0).take (j - 0) = cs.drop 0 := List.take_of_length_le (by rw [List.length_drop, HCL.out]; exact Nat.le_refl _)
                      rw [hdn] at HXW
                      have HDONE := Lib.hid (insDone HP.out (by have h9 := HC1.out; rw [HML.out] at h9 ⊢; exact h9) HC2.out HBY.out (by rw [HML.out]; exact hKm) (by rw [HML.out]; exact HXW.out) HOW.out HNXD.out HFW.out)
                      clear hdn
                      go_wp2_with fail
                      exact ⟨⟨i + 1, by omega, by simp, _, by rw [HST.out]; exact HDONE⟩, by simp [intOf]; omega⟩
          · obtain ⟨k', rfl⟩ : ∃ k', k = k' + 1 := ⟨k - 1, by omega⟩
            obtain ⟨g, pa, pm, pc, rfl, q1, q2, q3⟩ := HEL.out k' (by omega)
            have hle := HSTOP.out (by omega)
            rw [show k' + 1 - 1 = k' from rfl] at hle HNO HYES
            have R1 := Lib.hid (cellk hbk E1.out)
            have R2 := Lib.hid (cellk hbk q2)
            have r1 := cell_regrown (w := wk) R1.out
            have r2 := cell_regrown (w := wk) R2.out
            have e1 : (((k' + 1 : Nat)) : Int) - 1 = k' := by omega
            have e2 : (0 : Int) < ((k' + 1 : Nat) : Int) := by omega
            have e3 : (0 : Int) ≤ k' := by omega
            have e4 : (k' : Int) < m := by omega
            have hcall := Lib.hid (fun dn os => hLe.out (grow (redrawn wk dn) os) (.slice ea em ec) (.slice pa pm pc) x (L.getD k' []) (HX.out.below (hbk.trans ((below_regrown wk dn os).mono hbk.size))) (q3.below (hbk.trans ((below_regrown wk dn os).mono hbk.size))))
            rw [hle] at hcall
            have Q3 := Lib.hid q3
            clear hbk q1 q2 q3 hle HSTOP hK0
            go_wp2_with fail
            refine wp_region_quiet_below (by kernel_rfl) (by kernel_rfl) ?_
            repeat (any_goals (first | go_big_quiet_step ((go_at_call 51; exact Calls.regrown_of (hcall.out _ _))) | quiet_step ((go_at_call 51; exact Calls.regrown_of (hcall.out _ _)))))
            refine wpQuiet_nil ?_
            intro _ hw'
            obtain ⟨⟨dq, osq⟩, hw''⟩ := hw'
            subst hw''
            have HBX := Lib.hid (bnext HBK.out (below_regrown wk dq osq))
            have R3 := Lib.hid (cellk (below_regrown wk dq osq) R1.out)
            have R4 := Lib.hid (cellk (below_regrown wk dq osq) R2.out)
            clear r1 r2
            generalize grow (redrawn wk dq) osq = wx at *
            have r1 := cell_regrown (w := wx) R3.out
            have r2 := cell_regrown (w := wx) R4.out
            have hcall2 := Lib.hid (fun dn os => hEq.out (grow (redrawn wx dn) os) (.slice pa pm pc) (.slice ea em ec) (L.getD k' []) x (Q3.out.below (HBX.out.trans ((below_regrown wx dn os).mono HBX.out.size))) (HX.out.below (HBX.out.trans ((below_regrown wx dn os).mono HBX.out.size))))
            have hcase : once = false ∨ (once = true ∧ decide (L.getD k' [] = x) = false) ∨ (once = true ∧ decide (L.getD k' [] = x) = true) := by
              cases once <;> cases decide (L.getD k' [] = x) <;> simp
            go_wp2_with fail
            rcases hcase with rfl | ⟨rfl, hde⟩ | ⟨rfl, hde⟩
            · have HST := Lib.hid (HNO.out (.inl rfl))
              clear HNO HYES hcall hcall2
              refine wp_region_quiet_below (by kernel_rfl) (by kernel_rfl) ?_
              repeat (any_goals (first | go_big_quiet_step (fail) | quiet_step (fail)))
              refine wpQuiet_nil ?_
              intro _ hw'
              obtain ⟨⟨dr, osr⟩, hw''⟩ := hw'
              subst hw''
              have HBY := Lib.hid (bnext HBX.out (below_regrown wx dr osr))
              clear r1 r2
              generalize grow (redrawn wx dr) osr = wy at *
              clear e1 e2
              generalize hkk : k' + 1 = kk at *
              have hKm : kk ≤ m := by omega
              clear hkk
              have HLX : Hid (BuiltC 22 1 wy (wy.alloc (.cells #[] 22)) (.slice (some ⟨wy.heap.size, 0, none⟩) 0 0) 0 (cs.take 0)) := BuiltC.lit 22 1 wy wy 0 [] (Nat.zero_le _) rfl (Below.refl _ _)
              go_wp2_with fail
              go_loopw [8, 9] (fun xv jv wj => ∃ j : Nat, j ≤ kk ∧ jv = .int .i64 j ∧ Hid (BuiltC 22 1 wy wj xv j (cs.take j))) (fun _ jv _ => kk - (intOf jv).toNat)
              case atStart => exact ⟨0, by omega, rfl, HLX⟩
              case round =>
                obtain ⟨j, hj, rfl, HXV⟩ := hrel
                obtain ⟨wj, hwj⟩ : ∃ x, x = wr := ⟨_, rfl⟩
                subst hwj
                obtain ⟨xv, hxv⟩ : ∃ xv, xv = u8 := ⟨_, rfl⟩
                subst hxv
                by_cases hjk : j < kk
                · obtain ⟨g2, pa, pm, pc, hg2, q1, q2, q3⟩ := HEL.out j (by omega)
                  cases hg2
                  have r2 := cellk (bnext HBY.out HXV.out.2) q2
                  have HQ1 := Lib.hid (take_next q1)
                  have e1 : (0 : Int) ≤ j := by omega
                  have e2 : (j : Int) < kk := by omega
                  have e3 : (j : Int) < m := by omega
                  clear q1 q2 q3
                  go_wp2_with (at_builtin; refine wpList_app1C rfl (.tmp 59) (.tmp 64) 47 rfl 22 (.slice none 0 0) 1 24 Try.underlying47 info_IntSl (by decide) (by decide) (by rfl) xv j (cs.take j) rfl HXV.out [.slice pa pm pc] rfl (by simp [Value.oneCell']) (by first | rfl | (simp; rfl)) (by omega) ?_)
                  intro v' w' hown'
                  have HNEW : Hid (BuiltC 22 1 wy w' v' (j + 1) (cs.take (j + 1))) := by unfold Hid; rw [← HQ1.out]; exact hown'
                  clear hown' r2
                  go_wp2_with fail
                  exact ⟨⟨j + 1, by omega, by simp, HNEW⟩, by simp [intOf]; omega⟩
                · obtain rfl : kk = j := by omega
                  have rx := cellk (bnext HBY.out HXV.out.2) E1.out
                  have HXJ := Lib.hid (HX.out.below (bnext HBY.out HXV.out.2))
                  have rxa := cellk (below_alloc wj (.cells #[] 3)) rx
                  have HXA := Lib.hid (HXJ.out.below (below_alloc wj (.cells #[] 3)))
                  have hlit : Built .i64 3 wj (wj.alloc (.cells #[] 3)) (.slice (some ⟨wj.heap.size, 0, none⟩) 0 0) [] := by
                    have := Built.lit .i64 3 wj wj [] (Nat.zero_le _) (Below.refl _ _)
                    simpa using this
                  have HLI := Lib.hid hlit
                  clear hjk hj hlit
                  go_wp2_with (at_builtin; refine wpList_appInts rfl (.tmp 67) (.tmp 71) 22 rfl 3 Try.underlying22 info_i64 _ [] rfl HLI.out _ x rfl HXA.out (by simp; omega) ?_)
                  intro v1 w1 hb1
                  obtain ⟨bsx, ho1, hnx, hfx⟩ := OInts.ofBuilt hb1 (by simpa using HXA.out.1)
                  obtain ⟨va, vn, vc, rfl⟩ := ho1.1.shape
                  have ho1' : OInts w1 (.slice va vn vc) x bsx := by simpa using ho1
                  have HO1 := Lib.hid ho1'
                  clear ho1'
                  have HFX := Lib.hid hfx
                  have HNXD := Lib.hid hnx
                  have HXV1 := Lib.hid (HXV.out.grow hb1.below)
                  have hlx := blk_lt HXV.out
                  have HLX2 : Hid (∀ b ∈ bsx, b ∉ blk xv) := fun b hb hm => by have := hlx b hm; have := (hfx b hb).1; omega
                  have HS1 := Lib.hid HXV.out.2.size
                  clear hb1 ho1 hnx hfx hlx rx rxa
                  go_wp2_with (at_builtin; refine wpList_app1D rfl (.tmp 66) (.tmp 73) 47 rfl 22 (.slice none 0 0) 1 24 Try.underlying47 info_IntSl (by decide) (by decide) (by rfl) xv kk (cs.take kk) rfl HXV1.out [.slice va vn vc] rfl (by simp [Value.oneCell']) (by first | rfl | (simp; rfl)) (by omega) ?_)
                  intro v2 w2 hown2 ko2 hbl2
                  have HX2 : Hid (BuiltC 22 1 wy w2 v2 (kk + 1) (cs.take kk ++ (.slice va vn vc :: (cs.drop kk).take (kk - kk)))) := by
                    unfold Hid; rw [Nat.sub_self]; exact hown2
                  have HO2 : Hid (OInts w2 (.slice va vn vc) x bsx) := HO1.out.onlyAt ko2 HLX2.out
                  have HF2 : Hid (∀ b ∈ bsx, wy.heap.size ≤ b ∧ b < w2.heap.size ∧ b ∉ blk v2) := fun b hb => by
                    have h1 := HFX.out b hb
                    have h2 := HS1.out
                    have h3 := ko2.size
                    refine ⟨by omega, by omega, fun hm => ?_⟩
                    rcases hbl2 b hm with h4 | h4
                    · exact HLX2.out b hb h4
                    · omega
                  clear hown2 ko2 hbl2
                  go_wp2_with fail
                  go_loopw [8, 10] (fun xv jv wj => ∃ j : Nat, kk ≤ j ∧ j ≤ m ∧ jv = .int .i64 j ∧ Hid (BuiltC 22 1 wy wj xv (j + 1) (cs.take kk ++ (.slice va vn vc :: (cs.drop kk).take (j - kk)))) ∧ Hid (OInts wj (.slice va vn vc) x bsx) ∧ Hid (∀ b ∈ bsx, wy.heap.size ≤ b ∧ b < wj.heap.size ∧ b ∉ blk xv)) (fun _ jv _ => m - (intOf jv).toNat)
                  case atStart => exact ⟨kk, Nat.le_refl _, hKm, rfl, HX2, HO2, HF2⟩
                  case round =>
                    obtain ⟨j, hj1, hj2, rfl, HXW, HOW, HFW⟩ := hrel
                    obtain ⟨wl, hwl⟩ : ∃ x, x = wr := ⟨_, rfl⟩
                    subst hwl
                    obtain ⟨xw, hxw⟩ : ∃ xw, xw = u8 := ⟨_, rfl⟩
                    subst hxw
                    by_cases hjm : j < m
                    · obtain ⟨g2, pa, pm, pc, hg2, q1, q2, q3⟩ := HEL.out j hjm
                      cases hg2
                      have r2 := cellk (bnext HBY.out HXW.out.2) q2
                      have HQ1 := Lib.hid (take_insAt (.slice va vn vc) hj1 q1)
                      have e1 : (0 : Int) ≤ j := by omega
                      have e3 : (j : Int) < m := by omega
                      clear q1 q2 q3
                      go_wp2_with (at_builtin; refine wpList_app1D rfl (.tmp 82) (.tmp 87) 47 rfl 22 (.slice none 0 0) 1 24 Try.underlying47 info_IntSl (by decide) (by decide) (by rfl) xw (j + 1) _ rfl HXW.out [.slice pa pm pc] rfl (by simp [Value.oneCell']) (by first | rfl | (simp; rfl)) (by omega) ?_)
                      intro v3 w3 hown3 ko3 hbl3
                      have HX3 : Hid (BuiltC 22 1 wy w3 v3 (j + 1 + 1) (cs.take kk ++ (.slice va vn vc :: (cs.drop kk).take (j + 1 - kk)))) := by
                        unfold Hid; rw [← HQ1.out]; first | exact hown3 | (rw [List.append_assoc, List.cons_append]; exact hown3)
                      have HO3 : Hid (OInts w3 (.slice va vn vc) x bsx) := HOW.out.onlyAt ko3 (fun b hb => (HFW.out b hb).2.2)
                      have HF3 : Hid (∀ b ∈ bsx, wy.heap.size ≤ b ∧ b < w3.heap.size ∧ b ∉ blk v3) := fun b hb => by
                        have h1 := HFW.out b hb
                        have h3 := ko3.size
                        refine ⟨h1.1, by omega, fun hm => ?_⟩
                        rcases hbl3 b hm with h4 | h4
                        · exact h1.2.2 h4
                        · omega
                      clear hown3 ko3 hbl3 r2
                      go_wp2_with fail
                      exact ⟨⟨j + 1, by omega, by omega, by simp, HX3, HO3, HF3⟩, by simp [intOf]; omega⟩
                    · obtain rfl : j = m := by omega
                      have hdn : (cs.drop kk).take (j - kk) = cs.drop kk := List.take_of_length_le (by rw [List.length_drop, HCL.out]; exact Nat.le_refl _)
                      rw [hdn] at HXW
                      have HDONE := Lib.hid (insDone HP.out (by have h9 := HC1.out; rw [HML.out] at h9 ⊢; exact h9) HC2.out HBY.out (by rw [HML.out]; exact hKm) (by rw [HML.out]; exact HXW.out) HOW.out HNXD.out HFW.out)
                      clear hdn
                      go_wp2_with fail
                      exact ⟨⟨i + 1, by omega, by simp, _, by rw [HST.out]; exact HDONE⟩, by simp [intOf]; omega⟩
            · have HST := Lib.hid (HNO.out (.inr (.inr (of_decide_eq_false hde))))
              rw [hde] at hcall2
              clear HNO HYES hcall hde
              refine wp_region_quiet_below (by kernel_rfl) (by kernel_rfl) ?_
              repeat (any_goals (first | go_big_quiet_step ((go_at_call 36; exact Calls.regrown_of (hcall2.out _ _))) | quiet_step ((go_at_call 36; exact Calls.regrown_of (hcall2.out _ _)))))
              refine wpQuiet_nil ?_
              intro _ hw'
              obtain ⟨⟨dr, osr⟩, hw''⟩ := hw'
              subst hw''
              have HBY := Lib.hid (bnext HBX.out (below_regrown wx dr osr))
              clear r1 r2
              generalize grow (redrawn wx dr) osr = wy at *
              clear e1 e2
              generalize hkk : k' + 1 = kk at *
              have hKm : kk ≤ m := by omega
              clear hkk
              have HLX : Hid (BuiltC 22 1 wy (wy.alloc (.cells #[] 22)) (.slice (some ⟨wy.heap.size, 0, none⟩) 0 0) 0 (cs.take 0)) := BuiltC.lit 22 1 wy wy 0 [] (Nat.zero_le _) rfl (Below.refl _ _)
              go_wp2_with fail
              go_loopw [8, 9] (fun xv jv wj => ∃ j : Nat, j ≤ kk ∧ jv = .int .i64 j ∧ Hid (BuiltC 22 1 wy wj xv j (cs.take j))) (fun _ jv _ => kk - (intOf jv).toNat)
              case atStart => exact ⟨0, by omega, rfl, HLX⟩
              case round =>
                obtain ⟨j, hj, rfl, HXV⟩ := hrel
                obtain ⟨wj, hwj⟩ : ∃ x, x = wr := ⟨_, rfl⟩
                subst hwj
                obtain ⟨xv, hxv⟩ : ∃ xv, xv = u8 := ⟨_, rfl⟩
                subst hxv
                by_cases hjk : j < kk
                · obtain ⟨g2, pa, pm, pc, hg2, q1, q2, q3⟩ := HEL.out j (by omega)
                  cases hg2
                  have r2 := cellk (bnext HBY.out HXV.out.2) q2
                  have HQ1 := Lib.hid (take_next q1)
                  have e1 : (0 : Int) ≤ j := by omega
                  have e2 : (j : Int) < kk := by omega
                  have e3 : (j : Int) < m := by omega
                  clear q1 q2 q3
                  go_wp2_with (at_builtin; refine wpList_app1C rfl (.tmp 59) (.tmp 64) 47 rfl 22 (.slice none 0 0) 1 24 Try.underlying47 info_IntSl (by decide) (by decide) (by rfl) xv j (cs.take j) rfl HXV.out [.slice pa pm pc] rfl (by simp [Value.oneCell']) (by first | rfl | (simp; rfl)) (by omega) ?_)
                  intro v' w' hown'
                  have HNEW : Hid (BuiltC 22 1 wy w' v' (j + 1) (cs.take (j + 1))) := by unfold Hid; rw [← HQ1.out]; exact hown'
                  clear hown' r2
                  go_wp2_with fail
                  exact ⟨⟨j + 1, by omega, by simp, HNEW⟩, by simp [intOf]; omega⟩
                · obtain rfl : kk = j := by omega
                  have rx := cellk (bnext HBY.out HXV.out.2) E1.out
                  have HXJ := Lib.hid (HX.out.below (bnext HBY.out HXV.out.2))
                  have rxa := cellk (below_alloc wj (.cells #[] 3)) rx
                  have HXA := Lib.hid (HXJ.out.below (below_alloc wj (.cells #[] 3)))
                  have hlit : Built .i64 3 wj (wj.alloc (.cells #[] 3)) (.slice (some ⟨wj.heap.size, 0, none⟩) 0 0) [] := by
                    have := Built.lit .i64 3 wj wj [] (Nat.zero_le _) (Below.refl _ _)
                    simpa using this
                  have HLI := Lib.hid hlit
                  clear hjk hj hlit
                  go_wp2_with (at_builtin; refine wpList_appInts rfl (.tmp 67) (.tmp 71) 22 rfl 3 Try.underlying22 info_i64 _ [] rfl HLI.out _ x rfl HXA.out (by simp; omega) ?_)
                  intro v1 w1 hb1
                  obtain ⟨bsx, ho1, hnx, hfx⟩ := OInts.ofBuilt hb1 (by simpa using HXA.out.1)
                  obtain ⟨va, vn, vc, rfl⟩ := ho1.1.shape
                  have ho1' : OInts w1 (.slice va vn vc) x bsx := by simpa using ho1
                  have HO1 := Lib.hid ho1'
                  clear ho1'
                  have HFX := Lib.hid hfx
                  have HNXD := Lib.hid hnx
                  have HXV1 := Lib.hid (HXV.out.grow hb1.below)
                  have hlx := blk_lt HXV.out
                  have HLX2 : Hid (∀ b ∈ bsx, b ∉ blk xv) := fun b hb hm => by have := hlx b hm; have := (hfx b hb).1; omega
                  have HS1 := Lib.hid HXV.out.2.size
                  clear hb1 ho1 hnx hfx hlx rx rxa
                  go_wp2_with (at_builtin; refine wpList_app1D rfl (.tmp 66) (.tmp 73) 47 rfl 22 (.slice none 0 0) 1 24 Try.underlying47 info_IntSl (by decide) (by decide) (by rfl) xv kk (cs.take kk) rfl HXV1.out [.slice va vn vc] rfl (by simp [Value.oneCell']) (by first | rfl | (simp; rfl)) (by omega) ?_)
                  intro v2 w2 hown2 ko2 hbl2
                  have HX2 : Hid (BuiltC 22 1 wy w2 v2 (kk + 1) (cs.take kk ++ (.slice va vn vc :: (cs.drop kk).take (kk - kk)))) := by
                    unfold Hid; rw [Nat.sub_self]; exact hown2
                  have HO2 : Hid (OInts w2 (.slice va vn vc) x bsx) := HO1.out.onlyAt ko2 HLX2.out
                  have HF2 : Hid (∀ b ∈ bsx, wy.heap.size ≤ b ∧ b < w2.heap.size ∧ b ∉ blk v2) := fun b hb => by
                    have h1 := HFX.out b hb
                    have h2 := HS1.out
                    have h3 := ko2.size
                    refine ⟨by omega, by omega, fun hm => ?_⟩
                    rcases hbl2 b hm with h4 | h4
                    · exact HLX2.out b hb h4
                    · omega
                  clear hown2 ko2 hbl2
                  go_wp2_with fail
                  go_loopw [8, 10] (fun xv jv wj => ∃ j : Nat, kk ≤ j ∧ j ≤ m ∧ jv = .int .i64 j ∧ Hid (BuiltC 22 1 wy wj xv (j + 1) (cs.take kk ++ (.slice va vn vc :: (cs.drop kk).take (j - kk)))) ∧ Hid (OInts wj (.slice va vn vc) x bsx) ∧ Hid (∀ b ∈ bsx, wy.heap.size ≤ b ∧ b < wj.heap.size ∧ b ∉ blk xv)) (fun _ jv _ => m - (intOf jv).toNat)
                  case atStart => exact ⟨kk, Nat.le_refl _, hKm, rfl, HX2, HO2, HF2⟩
                  case round =>
                    obtain ⟨j, hj1, hj2, rfl, HXW, HOW, HFW⟩ := hrel
                    obtain ⟨wl, hwl⟩ : ∃ x, x = wr := ⟨_, rfl⟩
                    subst hwl
                    obtain ⟨xw, hxw⟩ : ∃ xw, xw = u8 := ⟨_, rfl⟩
                    subst hxw
                    by_cases hjm : j < m
                    · obtain ⟨g2, pa, pm, pc, hg2, q1, q2, q3⟩ := HEL.out j hjm
                      cases hg2
                      have r2 := cellk (bnext HBY.out HXW.out.2) q2
                      have HQ1 := Lib.hid (take_insAt (.slice va vn vc) hj1 q1)
                      have e1 : (0 : Int) ≤ j := by omega
                      have e3 : (j : Int) < m := by omega
                      clear q1 q2 q3
                      go_wp2_with (at_builtin; refine wpList_app1D rfl (.tmp 82) (.tmp 87) 47 rfl 22 (.slice none 0 0) 1 24 Try.underlying47 info_IntSl (by decide) (by decide) (by rfl) xw (j + 1) _ rfl HXW.out [.slice pa pm pc] rfl (by simp [Value.oneCell']) (by first | rfl | (simp; rfl)) (by omega) ?_)
                      intro v3 w3 hown3 ko3 hbl3
                      have HX3 : Hid (BuiltC 22 1 wy w3 v3 (j + 1 + 1) (cs.take kk ++ (.slice va vn vc :: (cs.drop kk).take (j + 1 - kk)))) := by
                        unfold Hid; rw [← HQ1.out]; first | exact hown3 | (rw [List.append_assoc, List.cons_append]; exact hown3)
                      have HO3 : Hid (OInts w3 (.slice va vn vc) x bsx) := HOW.out.onlyAt ko3 (fun b hb => (HFW.out b hb).2.2)
                      have HF3 : Hid (∀ b ∈ bsx, wy.heap.size ≤ b ∧ b < w3.heap.size ∧ b ∉ blk v3) := fun b hb => by
                        have h1 := HFW.out b hb
                        have h3 := ko3.size
                        refine ⟨h1.1, by omega, fun hm => ?_⟩
                        rcases hbl3 b hm with h4 | h4
                        · exact h1.2.2 h4
                        · omega
                      clear hown3 ko3 hbl3 r2
                      go_wp2_with fail
                      exact ⟨⟨j + 1, by omega, by omega, by simp, HX3, HO3, HF3⟩, by simp [intOf]; omega⟩
                    · obtain rfl : j = m := by omega
                      have hdn : (cs.drop kk).take (j - kk) = cs.drop kk := List.take_of_length_le (by rw [List.length_drop, HCL.out]; exact Nat.le_refl _)
                      rw [hdn] at HXW
                      have HDONE := Lib.hid (insDone HP.out (by have h9 := HC1.out; rw [HML.out] at h9 ⊢; exact h9) HC2.out HBY.out (by rw [HML.out]; exact hKm) (by rw [HML.out]; exact HXW.out) HOW.out HNXD.out HFW.out)
                      clear hdn
                      go_wp2_with fail
                      exact ⟨⟨i + 1, by omega, by simp, _, by rw [HST.out]; exact HDONE⟩, by simp [intOf]; omega⟩
            · have HST := Lib.hid (HYES.out rfl (by omega) (of_decide_eq_true hde))
              rw [hde] at hcall2
              clear HNO HYES hcall hde
              refine wp_region_quiet_below (by kernel_rfl) (by kernel_rfl) ?_
              repeat (any_goals (first | go_big_quiet_step ((go_at_call 36; exact Calls.regrown_of (hcall2.out _ _))) | quiet_step ((go_at_call 36; exact Calls.regrown_of (hcall2.out _ _)))))
              refine wpQuiet_nil ?_
              intro _ hw'
              obtain ⟨⟨dr, osr⟩, hw''⟩ := hw'
              subst hw''
              have HPX : Hid (OutII 22 w (grow (redrawn wx dr) osr) (.slice (some ⟨g, 0, none⟩) m oc) L bss) := HP.out.grow (bnext HBX.out (below_regrown wx dr osr))
              clear r1 r2
              go_wp2_with fail
              exact ⟨⟨i + 1, by omega, by simp, _, by rw [HST.out]; exact HPX⟩, by simp [intOf]; omega⟩
    · obtain rfl : i = n := by omega
      have HALL : Hid (sortTo l once i = sortL l once) := by unfold Hid; rw [← HL.out]; exact sortTo_all l once
      clear hbq hlenT
      go_wp2_with fail
      go_ret
      have hp := HP.out
      rw [HALL.out] at hp
      obtain ⟨bs, b1, b2⟩ := hp.done
      exact ⟨_, bs, rfl, b1, b2, hp.below⟩
end Go.Proofs.Ytdoeghpiaichhaa
