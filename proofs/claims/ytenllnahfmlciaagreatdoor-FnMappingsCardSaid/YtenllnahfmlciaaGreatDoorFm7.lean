/- Merged of F7fmt, I7fmt. -/
import Derived.Test.YtenllnahfmlciaaGreatDoorIfqAll
import Derived.Test.YtenllnahfmlciaaGreatDoorApp1D
/-! F7fmt -/
namespace Go.Proofs.YtenllnahfmlciaaGreatDoor
open Go Go.Sort Go.RowKit
set_option linter.unusedVariables false

/-- The texts of the first entries. -/
def mtx (m : List Int) : Nat → List (List UInt8)
  | 0 => []
  | k + 1 => if m.getD k 0 = -1000 then mtx m k else mtx m k ++ [ftext (k : Int) ++ 61 :: ftext (m.getD k 0)]
def mok (m : List Int) (k : Nat) : Bool := decide (m.getD k 0 = -1000) || (termB (m.getD k 0) && varB (k : Int))
def fmap (m : List Int) : List UInt8 := if (List.range m.length).all (mok m) then (if mtx m m.length = [] then [110, 111, 110, 101] else jn [32] (mtx m m.length)) else []
theorem mtx_skip {m : List Int} {k : Nat} (h : m.getD k 0 = -1000) : mtx m (k + 1) = mtx m k := by
  show (if _ then _ else _) = _; rw [if_pos h]
theorem mtx_one {m : List Int} {k : Nat} (h : m.getD k 0 ≠ -1000) : mtx m (k + 1) = mtx m k ++ [ftext (k : Int) ++ 61 :: ftext (m.getD k 0)] := by
  show (if _ then _ else _) = _; rw [if_neg h]
theorem mok_skip {m : List Int} {k : Nat} (h : m.getD k 0 = -1000) : mok m k = true := by unfold mok; rw [decide_eq_true h]; rfl
theorem mok_at {m : List Int} {k : Nat} (h : m.getD k 0 ≠ -1000) : mok m k = (termB (m.getD k 0) && varB (k : Int)) := by unfold mok; rw [decide_eq_false h]; rfl
theorem fmap_no {m : List Int} {k : Nat} (hk : k < m.length) (h : mok m k = false) : fmap m = [] := by
  have : (List.range m.length).all (mok m) = false := by
    rw [List.all_eq_false]; exact ⟨k, by simpa using hk, by rw [h]; simp⟩
  unfold fmap; rw [this]; rfl
theorem fmap_yes {m : List Int} (h : ∀ j, j < m.length → mok m j = true) : fmap m = if mtx m m.length = [] then [110, 111, 110, 101] else jn [32] (mtx m m.length) := by
  have : (List.range m.length).all (mok m) = true := by
    rw [List.all_eq_true]; exact fun j hj => h j (by simpa using hj)
  unfold fmap; rw [this]; rfl
theorem mtx_20 {m : List Int} : ∀ {i : Nat}, (∀ j, j < i → mok m j = true) → (mtx m i).length ≤ i ∧ (mtx m i).length ≤ 20
  | 0, _ => ⟨Nat.le_refl _, by simp [mtx]⟩
  | k + 1, h => by
    obtain ⟨h1, h2⟩ := mtx_20 (m := m) (i := k) (fun j hj => h j (by omega))
    by_cases hu : m.getD k 0 = -1000
    · rw [mtx_skip hu]; omega
    · have := h k (by omega)
      rw [mok_at hu, Bool.and_eq_true] at this
      have hv : (0 : Int) ≤ k ∧ (k : Int) ≤ 19 := of_decide_eq_true this.2
      rw [mtx_one hu, List.length_append, List.length_singleton]; omega
theorem mtx_le {m : List Int} (hi : ∀ x ∈ m, inI x) : ∀ {i : Nat}, (∀ j, j < i → mok m j = true) → ∀ x ∈ mtx m i, x.length ≤ 100 ∧ x ≠ []
  | 0, _, x, hx => by simp [mtx] at hx
  | k + 1, h, x, hx => by
    have ih := mtx_le hi (i := k) (fun j hj => h j (by omega))
    by_cases hu : m.getD k 0 = -1000
    · rw [mtx_skip hu] at hx; exact ih x hx
    · have h1 := h k (by omega)
      rw [mok_at hu, Bool.and_eq_true] at h1
      have hv : (0 : Int) ≤ k ∧ (k : Int) ≤ 19 := of_decide_eq_true h1.2
      rw [mtx_one hu] at hx
      rcases List.mem_append.1 hx with hx | hx
      · exact ih x hx
      · rw [List.mem_singleton.1 hx]
        have e1 := ftext_len (k : Int) (by unfold inI; omega)
        have e2 := ftext_len (m.getD k 0) (inI_getD hi k)
        exact ⟨by simp only [List.length_append, List.length_cons]; omega, by simp⟩
/-- What is written so far. -/
def mtxt (m : List Int) (i : Nat) : List UInt8 := jn [32] (mtx m i)
theorem mtxt_len {m : List Int} (hi : ∀ x ∈ m, inI x) {i : Nat} (h : ∀ j, j < i → mok m j = true) : (mtxt m i).length ≤ 2020 := by
  have h1 := jn_le [32] (mtx m i) (fun x hx => (mtx_le hi h x hx).1)
  have h2 := (mtx_20 h).2
  unfold mtxt
  have h3 : (mtx m i).length * (100 + [(32 : UInt8)].length) ≤ 20 * 101 := Nat.mul_le_mul h2 (by simp)
  omega
theorem mtxt_nil {m : List Int} (hi : ∀ x ∈ m, inI x) {i : Nat} (h : ∀ j, j < i → mok m j = true) : mtxt m i = [] ↔ mtx m i = [] := by
  refine ⟨fun e => ?_, fun e => by unfold mtxt; rw [e]; rfl⟩
  by_cases h0 : mtx m i = []
  · exact h0
  · exact absurd e (jn_ne _ _ h0 (fun x hx => (mtx_le hi h x hx).2))
theorem mtxt_one {m : List Int} {k : Nat} (h : m.getD k 0 ≠ -1000) (h0 : mtx m k = []) : mtxt m (k + 1) = ftext (k : Int) ++ 61 :: ftext (m.getD k 0) := by
  unfold mtxt; rw [mtx_one h, h0]; rfl
theorem mtxt_more {m : List Int} {k : Nat} (h : m.getD k 0 ≠ -1000) (h0 : mtx m k ≠ []) : mtxt m (k + 1) = mtxt m k ++ ([32] ++ (ftext (k : Int) ++ 61 :: ftext (m.getD k 0))) := by
  unfold mtxt; rw [mtx_one h, jn_snoc _ _ h0]

set_option maxRecDepth 100000 in
set_option maxHeartbeats 4000000 in
theorem sFormatMapping_any (w : World) (v : Value) (m : List Int) (h : Ints w v m) (hz : m.length ≤ 1048576) :
    Calls Tryz.prog 20 #[v] w (GaveV (.string (bs (fmap m))) w) := by
  obtain ⟨a, n, cap, rfl, hl, hn, hm, hcell⟩ := h.cases
  unfold maxLen at hm
  have HI := Lib.hid h.1
  have HC := Lib.hid hcell
  have HL := Lib.hid hl
  have hnl : n ≤ 1048576 := by omega
  clear h hcell hl hz
  go_enter Tryz.func20, Tryz.ntmps20
  go_wp2_with fail
  go_loopw [3, 4] (fun sv iv wr => ∃ i : Nat, i ≤ n ∧ iv = .int .i64 i ∧ sv = .string (bs (mtxt m i)) ∧ (∀ j, j < i → mok m j = true) ∧ Below w.heap.size w wr) (fun _ iv _ => n - (intOf iv).toNat)
  case atStart => exact ⟨0, by omega, rfl, rfl, fun j hj => by omega, Below.refl _ _⟩
  case round =>
    obtain ⟨i, hi, rfl, rfl, hok, hb⟩ := hrel
    have HB := Lib.hid hb
    have HOK := Lib.hid hok
    have hln := mtxt_len HI.out hok
    have HNIL := Lib.hid (mtxt_nil HI.out hok)
    by_cases hlt : i < n
    · obtain ⟨b, off, rfl, hbw, hc⟩ := HC.out (by omega)
      have c1 := cellk hb (hc i hlt)
      have hi0 : (0 : Int) ≤ i := by omega
      have hi1 : (i : Int) < n := by omega
      have hxx := inI_getD HI.out i
      have HX : Hid (mok m i = true → ∀ j, j < i + 1 → mok m j = true) := fun h j hj => by
        rcases Nat.lt_or_ge j i with h5 | h5
        · exact HOK.out j h5
        · obtain rfl : j = i := by omega
          exact h
      by_cases hu : m.getD i 0 = -1000
      · have HS : Hid (mtxt m (i + 1) = mtxt m i) := by unfold Hid mtxt; rw [mtx_skip hu]
        have HM := Lib.hid (HX.out (mok_skip hu))
        rw [hu] at c1
        generalize mtxt m i = F at *
        clear hc hbw hb hok hxx hu
        go_wp2_with fail
        exact ⟨⟨i + 1, by omega, by simp, by rw [HS.out], HM.out, HB.out⟩, by simp [intOf]; omega⟩
      · have hu2 : (m.getD i 0 == -1000) = false := by simpa using hu
        have HMK := Lib.hid (mok_at hu)
        have HU := Lib.hid hu
        have HT := Lib.hid (fun w => sIsTerm_any (m.getD i 0) w hxx.1 hxx.2)
        have HV := Lib.hid (fun w => sIsVar_any (i : Int) w)
        have HNO : Hid (mok m i = false → fmap m = []) := fun h => fmap_no (by rw [HL.out]; exact hlt) h
        have hft := Lib.hid (fun t w a b => sFormatTerm_any t w a b)
        have hx1 := hxx.1
        have hx2 := hxx.2
        have HS0 := Lib.hid (fun h0 => mtxt_one (m := m) (k := i) hu h0)
        have HS1 := Lib.hid (fun h0 => mtxt_more (m := m) (k := i) hu h0)
        have hz1 := ftext_len (m.getD i 0) hxx
        have hz2 := ftext_len (i : Int) (by unfold inI; omega)
        generalize m.getD i 0 = x at *
        generalize mtxt m i = F at *
        cases ht : termB x with
        | false =>
          have HQ := Lib.hid (HNO.out (by rw [HMK.out, ht]; rfl))
          rw [ht] at HT
          clear hc hbw hb hok hxx hu ht
          go_wp2_with fail
          refine (HT.out _).mono ?_
          rintro e w1 ⟨rfl, rfl⟩
          go_wp2_with fail
          go_ret
          exact ⟨ret_str' (by rw [HQ.out]), HB.out⟩
        | true =>
          rw [ht] at HT
          cases hv : varB (i : Int) with
          | false =>
            have HQ := Lib.hid (HNO.out (by rw [HMK.out, ht, hv]; rfl))
            rw [hv] at HV
            clear hc hbw hb hok hxx hu ht hv
            go_wp2_with fail
            refine (HT.out _).mono ?_
            rintro e w1 ⟨rfl, rfl⟩
            go_wp2_with fail
            refine (HV.out _).mono ?_
            rintro e w1 ⟨rfl, rfl⟩
            go_wp2_with fail
            go_ret
            exact ⟨ret_str' (by rw [HQ.out]), HB.out⟩
          | true =>
            have HM := Lib.hid (HX.out (by rw [HMK.out, ht, hv]; rfl))
            rw [hv] at HV
            have c2 := cell_regrown c1
            by_cases hF : F = []
            · have HS := Lib.hid (HS0.out (HNIL.out.1 hF))
              subst hF
              clear hc hbw hb hok hxx hu ht hv HS0 HS1 HNO HX
              go_wp2_with fail
              refine (HT.out _).mono ?_
              rintro e w1 ⟨rfl, rfl⟩
              go_wp2_with fail
              refine (HV.out _).mono ?_
              rintro e w1 ⟨rfl, rfl⟩
              go_wp2_with fail
              refine wp_region_quiet_below (by kernel_rfl) (by kernel_rfl) ?_
              repeat (any_goals (first | go_big_quiet_step ((go_at_call 42; exact Calls.regrown_of (hft.out _ _ (by omega) (by omega)))) | quiet_step ((go_at_call 42; exact Calls.regrown_of (hft.out _ _ (by omega) (by omega))))))
              refine wpQuiet_nil ?_
              intro _ hw'
              obtain ⟨⟨dq, osq⟩, hw''⟩ := hw'
              subst hw''
              go_wp2_with fail
              exact ⟨⟨i + 1, by omega, by simp, by rw [HS.out]; simp only [mk_bs']; simp, HM.out, bnext HB.out (below_regrown _ _ _)⟩, by simp [intOf]; omega⟩
            · have HS := Lib.hid (HS1.out (fun h => hF (HNIL.out.2 h)))
              have hne : F.isEmpty = false := by rw [List.isEmpty_eq_false_iff]; exact hF
              clear hc hbw hb hok hxx hu ht hv HS0 HS1 HNO HX hF
              go_wp2_with fail
              refine (HT.out _).mono ?_
              rintro e w1 ⟨rfl, rfl⟩
              go_wp2_with fail
              refine (HV.out _).mono ?_
              rintro e w1 ⟨rfl, rfl⟩
              go_wp2_with fail
              refine wp_region_quiet_below (by kernel_rfl) (by kernel_rfl) ?_
              repeat (any_goals (first | go_big_quiet_step ((go_at_call 42; exact Calls.regrown_of (hft.out _ _ (by omega) (by omega)))) | quiet_step ((go_at_call 42; exact Calls.regrown_of (hft.out _ _ (by omega) (by omega))))))
              refine wpQuiet_nil ?_
              intro _ hw'
              obtain ⟨⟨dq, osq⟩, hw''⟩ := hw'
              subst hw''
              go_wp2_with fail
              exact ⟨⟨i + 1, by omega, by simp, by rw [HS.out]; simp only [mk_bs']; simp, HM.out, bnext HB.out (below_regrown _ _ _)⟩, by simp [intOf]; omega⟩
    · obtain rfl : i = n := by omega
      have HQ := Lib.hid (fmap_yes (m := m) (by rw [HL.out]; exact HOK.out))
      rw [HL.out] at HQ
      have HMT : Hid (jn [32] (mtx m i) = mtxt m i) := rfl
      generalize mtxt m i = F at *
      clear hb hok
      by_cases hF : F = []
      · have HQ2 : Hid (fmap m = [110, 111, 110, 101]) := by unfold Hid; rw [HQ.out, if_pos (HNIL.out.1 hF)]
        subst hF
        go_wp2_with fail
        go_ret
        exact ⟨ret_str' (by rw [HQ2.out]), HB.out⟩
      · have HQ2 : Hid (fmap m = F) := by unfold Hid; rw [HQ.out, if_neg (fun h => hF (HNIL.out.2 h)), HMT.out]
        have hne : F.isEmpty = false := by rw [List.isEmpty_eq_false_iff]; exact hF
        clear hF
        go_wp2_with fail
        go_ret
        exact ⟨ret_str' (by rw [HQ2.out]), HB.out⟩
end Go.Proofs.YtenllnahfmlciaaGreatDoor

/-! I7fmt -/
namespace Go.Proofs.YtenllnahfmlciaaGreatDoor
open Go Go.Sort Go.RowKit
set_option linter.unusedVariables false

def strs7 (L : List (List UInt8)) : List Value := L.map (fun x => Value.string (bs x))
set_option maxRecDepth 100000 in
set_option maxHeartbeats 4000000 in
theorem iFormatMapping_any (w : World) (v : Value) (m : List Int) (h : Ints w v m) (hz : m.length ≤ 1048576) (he : Tab w) :
    Calls Tryz.prog 19 #[v] w (GaveV (.string (bs (fmap m))) w) := by
  obtain ⟨a, n, cap, rfl, hl, hn, hm, hcell⟩ := h.cases
  unfold maxLen at hm
  have HI := Lib.hid h.1
  have HC := Lib.hid hcell
  have HL := Lib.hid hl
  have HE := Lib.hid he
  have hnl : n ≤ 1048576 := by omega
  clear h hcell hl hz he
  go_enter Tryz.func19, Tryz.ntmps19
  go_wp2_with fail
  go_loopw [3, 8] (fun sv iv wr => ∃ i : Nat, i ≤ n ∧ iv = .int .i64 i ∧ BuiltC 9 1 w wr sv (mtx m i).length (strs7 (mtx m i)) ∧ (∀ j, j < i → mok m j = true)) (fun _ iv _ => n - (intOf iv).toNat)
  case atStart => exact ⟨0, by omega, rfl, BuiltC.nil _ _ _ _ (Below.refl _ _), fun j hj => by omega⟩
  case round =>
    obtain ⟨i, hi, rfl, hB, hok⟩ := hrel
    obtain ⟨ov, hov⟩ : ∃ ov, ov = u3 := ⟨_, rfl⟩
    subst hov
    have hb := hB.2
    have HB := Lib.hid hB
    have HOK := Lib.hid hok
    by_cases hlt : i < n
    · obtain ⟨b, off, rfl, hbw, hc⟩ := HC.out (by omega)
      have c1 := cellk hb (hc i hlt)
      have hi0 : (0 : Int) ≤ i := by omega
      have hi1 : (i : Int) < n := by omega
      have hxx := inI_getD HI.out i
      have HX : Hid (mok m i = true → ∀ j, j < i + 1 → mok m j = true) := fun h j hj => by
        rcases Nat.lt_or_ge j i with h5 | h5
        · exact HOK.out j h5
        · obtain rfl : j = i := by omega
          exact h
      by_cases hu : m.getD i 0 = -1000
      · have HS : Hid (mtx m (i + 1) = mtx m i) := mtx_skip hu
        have HM := Lib.hid (HX.out (mok_skip hu))
        rw [hu] at c1
        clear hc hbw hb hok hxx hu hB
        go_wp2_with fail
        exact ⟨⟨i + 1, by omega, by simp, by rw [HS.out]; exact HB.out, HM.out⟩, by simp [intOf]; omega⟩
      · have hu2 : (m.getD i 0 == -1000) = false := by simpa using hu
        have HMK := Lib.hid (mok_at hu)
        have HS := Lib.hid (mtx_one hu)
        have HT := Lib.hid (fun w => iIsTerm_any (m.getD i 0) w hxx.1 hxx.2)
        have HV := Lib.hid (fun w => iIsVar_any (i : Int) w)
        have HNO : Hid (mok m i = false → fmap m = []) := fun h => fmap_no (by rw [HL.out]; exact hlt) h
        have hft := Lib.hid (fun t w a b h => iFormatTerm_any t w a b h)
        have hx1 := hxx.1
        have hx2 := hxx.2
        have hz1 := ftext_len (m.getD i 0) hxx
        have hz2 := ftext_len (i : Int) (by unfold inI; omega)
        have h20 := (mtx_20 (m := m) (i := i) hok).2
        have HE1 := Lib.hid (HE.out.below hb)
        generalize m.getD i 0 = x at *
        generalize mtx m i = L at *
        cases hv : varB (i : Int) with
        | false =>
          have HQ := Lib.hid (HNO.out (by rw [HMK.out, hv, Bool.and_false]))
          have HBB := Lib.hid hb
          rw [hv] at HV
          clear hc hbw hb hok hxx hu hv hB
          go_wp2_with fail
          refine (HV.out _).mono ?_
          rintro e w1 ⟨rfl, rfl⟩
          go_wp2_with fail
          go_ret
          exact ⟨ret_str' (by rw [HQ.out]), HBB.out⟩
        | true =>
          rw [hv] at HV
          cases ht : termB x with
          | false =>
            have HQ := Lib.hid (HNO.out (by rw [HMK.out, ht]; rfl))
            have HBB := Lib.hid hb
            rw [ht] at HT
            clear hc hbw hb hok hxx hu ht hv hB
            go_wp2_with fail
            refine (HV.out _).mono ?_
            rintro e w1 ⟨rfl, rfl⟩
            go_wp2_with fail
            refine (HT.out _).mono ?_
            rintro e w1 ⟨rfl, rfl⟩
            go_wp2_with fail
            go_ret
            exact ⟨ret_str' (by rw [HQ.out]), HBB.out⟩
          | true =>
            have HM := Lib.hid (HX.out (by rw [HMK.out, ht, hv]; rfl))
            rw [ht] at HT
            clear hc hbw hb hok hxx hu ht hv hB HNO HX HMK
            go_wp2_with fail
            refine (HV.out _).mono ?_
            rintro e w1 ⟨rfl, rfl⟩
            go_wp2_with fail
            refine (HT.out _).mono ?_
            rintro e w1 ⟨rfl, rfl⟩
            go_wp2_with fail
            refine (hft.out _ _ (by omega) (by omega) HE1.out).mono ?_
            rintro e w2 ⟨rfl, hb2⟩
            have HE2 := Lib.hid (HE1.out.below hb2)
            have HB2 := Lib.hid (HB.out.grow hb2)
            clear hb2
            go_wp2_with fail
            refine (hft.out _ _ (by omega) (by omega) HE2.out).mono ?_
            rintro e w3 ⟨rfl, hb3⟩
            have HB3 := Lib.hid (HB2.out.grow hb3)
            clear hb3
            go_wp2_with (at_builtin; refine wpList_app1D rfl (.tmp 23) (.tmp 30) 59 rfl 9 (.string ByteArray.empty) 1 16 Tryz.underlying59 info_string (by decide) (by decide) (by rfl) ov L.length (strs7 L) rfl HB3.out [.string _] rfl (by simp [Value.oneCell']) (by first | rfl | (simp; rfl)) (by omega) ?_)
            intro v' w4 hown' ko hbl
            have HO4 := Lib.hid hown'
            clear hown' ko hbl
            go_wp2_with fail
            refine ⟨⟨i + 1, by omega, by simp, ?_, HM.out⟩, by simp [intOf]; omega⟩
            have := HO4.out
            rw [HS.out]
            unfold strs7 at this ⊢
            rw [List.map_append, List.length_append]
            simp only [mk_bs'] at this
            simpa using this
    · obtain rfl : i = n := by omega
      have HQ := Lib.hid (fmap_yes (m := m) (by rw [HL.out]; exact HOK.out))
      rw [HL.out] at HQ
      have h20 := (mtx_20 (m := m) (i := i) hok).2
      have HTZ := Lib.hid (fun x hx => (mtx_le HI.out hok x hx).1)
      generalize mtx m i = L at *
      have HBB := Lib.hid hb
      clear hb hok hB
      by_cases h0 : L = []
      · have HQ2 : Hid (fmap m = [110, 111, 110, 101]) := by unfold Hid; rw [HQ.out, if_pos h0]
        subst h0
        rcases HB.out.form with ⟨rfl, _⟩ | ⟨g, cp, rfl, _⟩
        all_goals (go_wp2_with fail; go_ret; exact ⟨ret_str' (by rw [HQ2.out]), HBB.out⟩)
      · have HQ2 : Hid (fmap m = jn [32] L) := by unfold Hid; rw [HQ.out, if_neg h0]
        rcases HB.out.form with ⟨_, h1⟩ | ⟨g, cp, rfl, hc1, hc2⟩
        · exact absurd (List.eq_nil_of_length_eq_zero h1) h0
        have hne : ((L.length : Int) == 0) = false := by
          have : L.length ≠ 0 := fun h => h0 (List.eq_nil_of_length_eq_zero h)
          rw [beq_eq_false_iff_ne]; omega
        have HJ : Hid (Calls Tryz.prog 39 #[.slice (some ⟨g, 0, none⟩) L.length cp, .string ⟨#[32]⟩] wr (GaveV (.string (bs (jn [32] L))) wr)) := by
          have hB2 := HB.out
          have hxl : (L.map bs).length = L.length := by simp
          have hj : ((L.map bs).map (·.data.toList)) = L := by
            rw [List.map_map]
            exact (List.map_congr_left (g := id) fun x hx => rfl).trans (List.map_id L)
          have := Tryz.strings_Join g 0 cp (L.map bs) ⟨#[32]⟩ wr
            (fun j x hjx => by
              have hji : j < L.length := by rw [← hxl]; exact (List.getElem?_eq_some_iff.1 hjx).1
              rw [Nat.zero_add, hB2.cell j (by omega)]
              unfold strs7
              rw [List.getElem?_map] at hjx ⊢
              obtain ⟨y, hy, rfl⟩ := Option.map_eq_some_iff.1 hjx
              rw [hy]; rfl)
            hB2.lt.2 (by rw [hxl]; omega) (by rw [hxl]; exact hc1)
            (by rw [hj, show (⟨#[32]⟩ : ByteArray).data.toList = [32] from rfl, jn_join]; have := jn_le [32] L HTZ.out; simp at this; omega)
          rw [hxl, hj, show (⟨#[32]⟩ : ByteArray).data.toList = [32] from rfl, jn_join] at this
          exact this
        generalize jn [32] L = FL at *
        generalize L.length = nl at *
        clear h0 hc1 hc2
        go_wp2_with fail
        refine HJ.out.mono ?_
        rintro e w3 ⟨rfl, hb3⟩
        have HB3 := Lib.hid (bnext HBB.out hb3)
        clear hb3
        go_wp2_with fail
        go_ret
        exact ⟨ret_str' (by rw [HQ2.out]), HB3.out⟩
end Go.Proofs.YtenllnahfmlciaaGreatDoor
