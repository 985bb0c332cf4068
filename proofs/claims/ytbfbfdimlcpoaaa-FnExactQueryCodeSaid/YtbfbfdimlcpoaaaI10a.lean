/- Contracts of chapter 10's impl: slices.Grow of nil, slices.Concat of []int, QueryCode. -/
import Derived.Test.YtbfbfdimlcpoaaaM10
import Derived.Test.YtbfbfdimlcpoaaaS10a
import Derived.Lib.AppendZerosOnto
namespace Go.Proofs.Ytbfbfdimlcpoaaa
open Go Go.Sort Go.RowKit
set_option linter.unusedVariables false

set_option maxRecDepth 100000 in
set_option maxHeartbeats 4000000 in
theorem iGrow_any (w : World) (n : Nat) (hn : n ≤ 4194304) :
    Calls Try.prog 69 #[.slice none 0 0, .int .i64 n] w (fun e w' => ∃ v, e = .returned v ∧ Built .i64 3 w w' v []) := by
  rcases Nat.eq_zero_or_pos n with rfl | h0
  · go_enter Try.func69, Try.ntmps69
    go_wp2_with fail
    go_ret
    exact ⟨_, rfl, BuiltC.nil _ _ _ _ (Below.refl _ _)⟩
  · obtain ⟨i, hi, hz0, hz1, hz2⟩ := info_parts info_i64
    have hrz : ∀ ty, (Builtin.append_ #[22, 3] ty #[.slice none 0 0, .int .i64 (n : Int)]).run Try.prog w =
        .ok (.slice (some ⟨w.heap.size, 0, none⟩) n (grownCap w n 0 3)) (w.drew.alloc (.cells (#[] ++ Builtin.zeroCells (Value.int .i64 0).cells n ++ Builtin.zeroCells (Value.int .i64 0).cells (grownCap w n 0 3 - n)) 3)) := fun ty => by
      have h := Lib.run_append_grow_zeros w 22 3 ty 3 i (.int .i64 0) .i64 .i64 Try.underlying22 Try.underlying3 hi hz0 none 0 0 [] (run_firstCells_none _ _ _ _ _) n h0 (by rw [hz1]; omega) (by omega) (by omega) (by rw [hz2]; omega)
        (growslice_fits (by omega) (by rw [hz2]; omega))
      simpa using h
    have hG : n ≤ grownCap w n 0 3 := grownCap_ge w _ _ _
    have hG2 : grownCap w n 0 3 ≤ maxLen := grownCap_le_maxLen w n 0 3 (by unfold maxLen; omega)
    generalize grownCap w n 0 3 = G at *
    obtain ⟨cs, hcs⟩ : ∃ cs : Array Value, cs = #[] ++ Builtin.zeroCells (Value.int .i64 0).cells n ++ Builtin.zeroCells (Value.int .i64 0).cells (G - n) := ⟨_, rfl⟩
    have hcz : cs.size = G := by rw [hcs]; simp [size_zeroCells, Value.cells]; omega
    rw [← hcs] at hrz
    clear hcs
    have HB : Hid (Built .i64 3 w (w.alloc (.cells cs 3)).drew (.slice (some ⟨w.heap.size, 0, none⟩) 0 G) []) := Lib.hid (Built.made .i64 3 w w cs G hG2 hcz (Below.refl _ w)).drew
    clear hcz
    have hn1 : ¬ ((n : Int) < 0) := by omega
    have hn2 : (n : Int) > 0 := by omega
    have HG := Lib.hid hG
    unfold maxLen at hG2
    go_enter Try.func69, Try.ntmps69
    go_wp2_with (at_builtin; refine Lib.wpList_append_run _ rfl _ _ _ _ rfl _ _ rfl rfl _ _ (hrz _) ?_)
    all_goals (go_ret; exact ⟨_, rfl, HB.out⟩)

def catLen (l : List (List Int)) : Nat := (l.map List.length).sum
theorem cat_take {l : List (List Int)} {i : Nat} {e : List Int} (h : l[i]? = some e) : (l.take (i + 1)).flatten = (l.take i).flatten ++ e := by
  obtain ⟨hi, rfl⟩ := List.getElem?_eq_some_iff.1 h
  rw [List.take_succ_eq_append_getElem hi, List.flatten_append]; simp
theorem cat_take_le (l : List (List Int)) (i : Nat) : (l.take i).flatten.length ≤ l.flatten.length := by
  have h := congrArg List.length (congrArg List.flatten (List.take_append_drop i l))
  rw [List.flatten_append, List.length_append] at h
  omega
/-- A row of slices of int, in a literal block. -/
def IntsRow (w : World) (b off : Nat) (l : List (List Int)) : Prop := ∀ (j : Nat) (x : List Int), l[j]? = some x → ∃ a n c, w.cell? ⟨b, off + j, none⟩ = some (.slice a n c) ∧ Ints w (.slice a n c) x
theorem IntsRow.below {w w' : World} {b off : Nat} {l : List (List Int)} (h : IntsRow w b off l) (hb : Below w.heap.size w w') : IntsRow w' b off l := fun j x hx => by
  obtain ⟨a, n, c, h1, h2⟩ := h j x hx
  exact ⟨a, n, c, cellk hb h1, h2.below hb⟩

set_option maxRecDepth 100000 in
set_option maxHeartbeats 4000000 in
theorem iConcat_any (w : World) (b off n c : Nat) (l : List (List Int)) (h : IntsRow w b off l) (hl : l.length = n) (hn : n ≤ 1048576) (hz : l.flatten.length ≤ 4194304) :
    Calls Try.prog 46 #[.slice (some ⟨b, off, none⟩) n c] w (fun e w' => ∃ v, e = .returned v ∧ Built .i64 3 w w' v l.flatten) := by
  have HR := Lib.hid h
  have HL := Lib.hid hl
  have HZ := Lib.hid hz
  have hG := Lib.hid (fun n h => iGrow_any w n h)
  clear h hl hz
  go_enter Try.func46, Try.ntmps46
  go_wp2_with fail
  go_loopw [3, 11] (fun sv iv wr => ∃ i : Nat, i ≤ n ∧ iv = .int .i64 i ∧ sv = .int .i64 ((l.take i).flatten.length : Nat) ∧ wr = w) (fun _ iv _ => n - (intOf iv).toNat)
  case atStart => exact ⟨0, by omega, rfl, by simp, rfl⟩
  case round =>
    obtain ⟨i, hi, rfl, rfl, rfl⟩ := hrel
    by_cases hlt : i < n
    · obtain ⟨e, hd⟩ : ∃ e, l[i]? = some e := ⟨l[i]'(by rw [HL.out]; exact hlt), List.getElem?_eq_getElem (by rw [HL.out]; exact hlt)⟩
      obtain ⟨ea, em, ec, k0, hI⟩ := HR.out i e hd
      obtain ⟨_, _, _, e1, hel, hem, hec, _⟩ := hI.cases
      cases e1
      have HCT := Lib.hid (congrArg List.length (cat_take hd))
      have hle := cat_take_le l (i + 1)
      have hz := HZ.out
      rw [HCT.out, List.length_append, hel] at hle
      have HSN : Hid (((l.take (i + 1)).flatten.length : Int) = ((l.take i).flatten.length : Int) + em) := by
        unfold Hid; rw [HCT.out, List.length_append, hel]; omega
      have hi0 : (0 : Int) ≤ i := by omega
      have hi1 : (i : Int) < n := by omega
      unfold maxLen at hec
      generalize (l.take i).flatten.length = s at *
      have hs1 : ¬ ((s : Int) + (em : Int) < 0) := by omega
      have hw : wrap64 ((s : Int) + (em : Int)) = (s : Int) + (em : Int) := by unfold wrap64; omega
      clear hd hI
      go_wp2_with fail
      exact ⟨⟨i + 1, by omega, by simp, by rw [HSN.out], by trivial⟩, by simp [intOf]; omega⟩
    · obtain rfl : i = n := by omega
      obtain ⟨wq, hwq⟩ : ∃ x, x = wr := ⟨_, rfl⟩
      subst hwq
      have hT : l.take i = l := List.take_of_length_le (by rw [HL.out]; exact Nat.le_refl _)
      rw [hT]
      have hg := Lib.hid (hG.out l.flatten.length HZ.out)
      clear hT
      generalize hs : l.flatten.length = s at hg ⊢
      go_wp2_with fail
      refine hg.out.mono ?_
      rintro e2 w2 ⟨v2, rfl, hb2⟩
      have HB2 := Lib.hid hb2
      clear hb2 hs
      go_wp2_with fail
      go_loopw [6, 27] (fun ov iv wr => ∃ k : Nat, k ≤ i ∧ iv = .int .i64 k ∧ Built .i64 3 wq wr ov (l.take k).flatten) (fun _ iv _ => i - (intOf iv).toNat)
      case atStart => exact ⟨0, by omega, rfl, by simpa using HB2.out⟩
      case round =>
        obtain ⟨k, hk, rfl, hown⟩ := hrel
        have HO := Lib.hid hown
        by_cases hlt : k < i
        · obtain ⟨e, hd⟩ : ∃ e, l[k]? = some e := ⟨l[k]'(by rw [HL.out]; exact hlt), List.getElem?_eq_getElem (by rw [HL.out]; exact hlt)⟩
          obtain ⟨ea, em, ec, k0, hI⟩ := HR.out k e hd
          replace k0 := cellk hown.below k0
          have HI := Lib.hid (hI.below hown.below)
          have HCT := Lib.hid (cat_take hd)
          have HLN : Hid ((l.take k).flatten.length + e.length ≤ 1099511627776) := by
            have hle := cat_take_le l (k + 1)
            have hz := HZ.out
            rw [HCT.out, List.length_append] at hle
            exact Lib.hid (by omega)
          have hi0 : (0 : Int) ≤ k := by omega
          have hi1 : (k : Int) < i := by omega
          generalize (l.take k).flatten = L at *
          clear hown hd hI
          go_wp2_with (at_builtin; refine wpList_appInts rfl (.tmp 31) (.tmp 32) 22 rfl 3 Try.underlying22 info_i64 _ L rfl HO.out _ e rfl HI.out HLN.out ?_)
          intro v4 w4 hown4
          have HO4 : Hid (Built .i64 3 wq w4 v4 (l.take (k + 1)).flatten) := by rw [HCT.out]; exact Lib.hid hown4
          clear hown4
          go_wp2_with fail
          exact ⟨⟨k + 1, by omega, by simp, HO4.out⟩, by simp [intOf]; omega⟩
        · obtain rfl : k = i := by omega
          have hT : l.take k = l := List.take_of_length_le (by rw [HL.out]; exact Nat.le_refl _)
          clear hown
          go_wp2_with fail
          go_ret
          exact ⟨_, rfl, by have := HO.out; rwa [hT] at this⟩

set_option maxRecDepth 100000 in
set_option maxHeartbeats 8000000 in
theorem iQCode_any (w : World) (v : Value) (d : QueryD) (h : RdQuery w v d) (hz : sizeQuery d ≤ 1048576) :
    Calls Try.prog 23 #[v] w (GaveInts w (codeQ d)) := by
  obtain ⟨a0, n0, c0, a, n, c, rfl, hi, ha⟩ := h
  obtain ⟨hl, hn, hm, hcell⟩ := ha.at
  have hnl : n ≤ 1048576 := by unfold sizeQuery sizeAtomS at hz; omega
  have hz1 : d.1.length ≤ 1048576 := by unfold sizeQuery at hz; omega
  unfold maxLen at hm
  obtain ⟨_, _, _, e1, hl0, hn1, hm1, _⟩ := hi.cases
  cases e1
  have HC := Lib.hid hcell
  have HL := Lib.hid hl
  have HI := Lib.hid hi
  have HZ := Lib.hid hz
  have HZ1 := Lib.hid hz1
  have HL0 := Lib.hid hl0
  have HAI := Lib.hid (RdSl.allI ha ⟨_, _, _, rfl⟩)
  have HN0 : Hid (n0 ≤ 1048576) := by unfold Hid; omega
  have hG := Lib.hid (fun w b off n c l h hl hn hz => iConcat_any w b off n c l h hl hn hz)
  unfold maxLen at hm1
  clear hi ha hcell hl hz hz1 hl0
  go_enter Try.func23, Try.ntmps23
  go_upto_region 1 with fail
  obtain ⟨W, hW⟩ : ∃ W, W = w.alloc (.cells #[.slice a0 n0 c0, .slice a n c] 29) := ⟨_, rfl⟩
  have HBW : Hid (Below w.heap.size w W) := by rw [hW]; exact Lib.hid (below_alloc _ _)
  have q0 : W.cell? ⟨w.heap.size, 0, none⟩ = some (.slice a0 n0 c0) := by rw [hW]; simp
  have q1 : W.cell? ⟨w.heap.size, 1, none⟩ = some (.slice a n c) := by rw [hW]; simp
  rw [← hW]
  clear hW
  have hal := below_alloc W (.cells #[.int .i64 n0] 3)
  have z0 := cellk hal q0
  have hlit : Ints (W.alloc (.cells #[.int .i64 n0] 3)) (.slice (some ⟨W.heap.size, 0, none⟩) 1 1) [(n0 : Int)] := by
    have := Built.lit .i64 3 W W [(n0 : Int)] (by unfold maxLen; simp) (Below.refl _ _)
    exact Ints.ofBuilt (by simpa using this) (fun x hx => by simp at hx; subst hx; unfold inI; have := HN0.out; omega)
  have HROW : Hid (IntsRow ((W.alloc (.cells #[.int .i64 n0] 3)).alloc (.cells #[.slice (some ⟨W.heap.size, 0, none⟩) 1 1, .slice a0 n0 c0] 22)) (W.heap.size + 1) 0 [[(n0 : Int)], d.1]) := by
    unfold Hid
    intro j x hx
    have hal2 := below_alloc (W.alloc (.cells #[.int .i64 n0] 3)) (.cells #[.slice (some ⟨W.heap.size, 0, none⟩) 1 1, .slice a0 n0 c0] 22)
    rcases j with _ | _ | j
    · simp at hx; subst hx
      exact ⟨_, _, _, by simp, hlit.below hal2⟩
    · simp at hx; subst hx
      exact ⟨_, _, _, by simp, HI.out.below (bnext HBW.out (bnext hal hal2))⟩
    · simp at hx
  have HBC : Hid (Below W.heap.size W ((W.alloc (.cells #[.int .i64 n0] 3)).alloc (.cells #[.slice (some ⟨W.heap.size, 0, none⟩) 1 1, .slice a0 n0 c0] 22))) := Lib.hid (bnext hal (below_alloc _ _))
  have hg := Lib.hid (hG.out _ (W.heap.size + 1) 0 2 2 [[(n0 : Int)], d.1] HROW.out rfl (by omega) (by have := HZ1.out; simp; omega))
  clear hal hlit HROW
  go_wp2_with fail
  refine hg.out.mono ?_
  rintro e w2 ⟨v2, rfl, hown⟩
  have HB2 := Lib.hid (bnext HBC.out hown.below)
  have HB0 := Lib.hid (bnext HBW.out HB2.out)
  have HSZ : Hid (w.heap.size ≤ ((W.alloc (.cells #[.int .i64 n0] 3)).alloc (.cells #[.slice (some ⟨W.heap.size, 0, none⟩) 1 1, .slice a0 n0 c0] 22)).heap.size) := Lib.hid (Nat.le_trans HBW.out.size HBC.out.size)
  have HWC := Lib.hid (bnext HBW.out HBC.out)
  have HOWN : Hid (Built .i64 3 ((W.alloc (.cells #[.int .i64 n0] 3)).alloc (.cells #[.slice (some ⟨W.heap.size, 0, none⟩) 1 1, .slice a0 n0 c0] 22)) w2 v2 ((n0 : Int) :: d.1)) := Lib.hid (by simpa using hown)
  have q1' := cellk HB2.out q1
  clear hown q0 q1 z0 hg
  generalize (W.alloc (.cells #[.int .i64 n0] 3)).alloc (.cells #[.slice (some ⟨W.heap.size, 0, none⟩) 1 1, .slice a0 n0 c0] 22) = WC at *
  clear HBC
  go_wp2_with fail
  clear q1'
  go_loopw [3, 17] (fun ov iv wr => ∃ i : Nat, i ≤ n ∧ iv = .int .i64 i ∧ Built .i64 3 WC wr ov ((n0 : Int) :: (d.1 ++ codeA (d.2.take i)))) (fun _ iv _ => n - (intOf iv).toNat)
  case atStart => exact ⟨0, by omega, rfl, by simpa [codeA] using HOWN.out⟩
  case round =>
    obtain ⟨wo, hwo⟩ : ∃ x, x = wr := ⟨_, rfl⟩
    subst hwo
    obtain ⟨i, hi, rfl, hown⟩ := hrel
    have HO := Lib.hid hown
    have HB := Lib.hid (bnext HWC.out hown.below)
    clear hown
    by_cases hlt : i < n
    · obtain ⟨b, off, rfl, hbw, hc⟩ := HC.out (by omega)
      obtain ⟨e, hd⟩ : ∃ e, d.2[i]? = some e := ⟨d.2[i]'(by rw [HL.out]; exact hlt), List.getElem?_eq_getElem (by rw [HL.out]; exact hlt)⟩
      obtain ⟨ea, em, ec, c0', c1', hdi, hints⟩ := atomAt (n := n) hc i e hd
      have k0 := cellk HB.out c0'
      have k1 := cellk HB.out c1'
      have HCT := Lib.hid (code_take hd)
      have HLN : Hid (((n0 : Int) :: (d.1 ++ codeA (d.2.take i))).length + 1 + e.2.length ≤ 4194304) := by
        have h1 := codeA_take_le d.2 i
        have h2 := codeA_take_le d.2 (i + 1)
        rw [code_take hd] at h2
        have h3 := HZ.out
        unfold sizeQuery at h3
        unfold Hid
        simp only [List.length_append, List.length_cons] at h2 ⊢
        omega
      have HINT := Lib.hid (fun w' (hb : Below w.heap.size w w') => hints.below hb)
      have HIN2 := Lib.hid (hints.1)
      have hi0 : (0 : Int) ≤ i := by omega
      have hi1 : (i : Int) < n := by omega
      have HDI := Lib.hid hdi
      clear hc hbw hd hdi hints c0' c1'
      generalize hcl : codeA (d.2.take i) = L at *
      generalize hr : e.1 = r at *
      generalize hl2 : e.2 = l2 at *
      clear hr hl2 hcl
      obtain ⟨wp, hwp⟩ : ∃ x, x = wo.alloc (.cells #[.int .i64 r, .slice ea em ec] 52) := ⟨_, rfl⟩
      have hbp : Below wo.heap.size wo wp := by rw [hwp]; exact below_alloc _ _
      have p0 : wp.cell? ⟨wo.heap.size, 0, none⟩ = some (.int .i64 r) := by rw [hwp]; simp
      have p1 : wp.cell? ⟨wo.heap.size, 1, none⟩ = some (.slice ea em ec) := by rw [hwp]; simp
      have HO2 := Lib.hid (HO.out.grow hbp)
      have HBP := Lib.hid (bnext HB.out hbp)
      go_upto_region 5 with fail
      rw [← hwp]
      clear hwp hbp k0 k1
      have HOC : Hid (BuiltC 3 1 WC wp u3 ((n0 : Int) :: (d.1 ++ L)).length (((n0 : Int) :: (d.1 ++ L)).map (Value.int .i64))) := HO2
      have HNB : Hid (wo.heap.size ∉ blk u3) := fun hm => by
        have h1 : BuiltC 3 1 WC wo u3 ((n0 : Int) :: (d.1 ++ L)).length (((n0 : Int) :: (d.1 ++ L)).map (Value.int .i64)) := HO.out
        rcases h1.form with ⟨rfl, _⟩ | ⟨g, cap, rfl, _, _⟩
        · simp [blk] at hm
        · have := h1.lt
          simp [blk] at hm
          omega
      have P1 := Lib.hid p1
      go_wp2_with (at_builtin; refine wpList_app1D rfl (.tmp 21) (.tmp 24) 22 rfl 3 (.int .i64 0) 1 8 Try.underlying22 info_i64 (by decide) (by decide) (by rfl) _ ((n0 : Int) :: (d.1 ++ L)).length (((n0 : Int) :: (d.1 ++ L)).map (Value.int .i64)) rfl HOC.out [.int .i64 r] rfl (by simp [Value.oneCell']) rfl (by have := HLN.out; omega) ?_)
      intro v3 w3 hown3 ho3 hbl3
      have k1 := ho3.cell HNB.out P1.out
      have hown3' : Built .i64 3 WC w3 v3 ((n0 : Int) :: (d.1 ++ (L ++ [r]))) := by
        have : BuiltC 3 1 WC w3 v3 ((n0 : Int) :: (d.1 ++ (L ++ [r]))).length (((n0 : Int) :: (d.1 ++ (L ++ [r]))).map (Value.int .i64)) := by simpa [Nat.add_assoc] using hown3
        exact this
      have HO3 := Lib.hid hown3'
      have HXI := Lib.hid (HINT.out _ (bnext HWC.out hown3'.below))
      clear hown3 hown3' ho3 hbl3 p0 p1
      go_wp2_with (at_builtin; refine wpList_appInts rfl (.tmp 26) (.tmp 28) 22 rfl 3 Try.underlying22 info_i64 _ ((n0 : Int) :: (d.1 ++ (L ++ [r]))) rfl HO3.out _ l2 rfl HXI.out (by have := HLN.out; simp only [List.length_append, List.length_cons, List.length_nil] at this ⊢; omega) ?_)
      intro v4 w4 hown4
      have HO4 : Hid (Built .i64 3 WC w4 v4 ((n0 : Int) :: (d.1 ++ codeA (d.2.take (i + 1))))) := by rw [HCT.out]; exact Lib.hid (by simpa using hown4)
      clear hown4
      go_wp2_with fail
      exact ⟨⟨i + 1, by omega, by simp, HO4.out⟩, by simp [intOf]; omega⟩
    · obtain rfl : i = n := by omega
      go_wp2_with fail
      go_ret
      have ho := HO.out
      have hT : d.2.take i = d.2 := List.take_of_length_le (by rw [HL.out]; exact Nat.le_refl _)
      have hI := codeQ_inI HZ1.out HI.out.1 d.2.length HAI.out
      rw [HL.out, HL0.out, hT] at hI
      rw [hT] at ho
      have hq : (n0 : Int) :: (d.1 ++ codeA d.2) = codeQ d := by unfold codeQ; rw [HL0.out]
      rw [hq] at ho hI
      obtain ⟨v', bs', e1, ho', hf, hb⟩ := ho.owns hI
      exact ⟨v', bs', e1, ho', hf.wide HWC.out.size (Nat.le_refl _), bnext HWC.out hb⟩
end Go.Proofs.Ytbfbfdimlcpoaaa
