/- Contracts of chapter 4's spec: FormatQuery. -/
import Derived.Test.YtchcifikopmfoaaGreatDoorSquery
import Derived.Test.YtchcifikopmfoaaGreatDoorSfatom
namespace Go.Proofs.YtchcifikopmfoaaGreatDoor
open Go Go.Sort Go.RowKit
set_option linter.unusedVariables false

theorem fatom_le {r : Int} {l : List Int} (hr : inI r) (hl : ∀ x ∈ l, inI x) : (fatom r l).length ≤ 100 := by
  unfold fatom
  split
  · rename_i h
    have h3 : l.length ≤ 3 := by
      rw [Bool.and_eq_true] at h
      have h2 := h.2
      unfold termsB at h2
      rw [Bool.and_eq_true] at h2
      exact of_decide_eq_true h2.2
    have hz1 := Lib.itoa_length_le r hr.1 hr.2
    have hz2 := flist_len l hl
    simp only [List.length_cons, List.length_append, List.length_nil]
    omega
  · simp
def fhead (h : List Int) : List UInt8 := if h = [] then [121, 101, 115] else flist h
def atText (l : List AtomD) (k : Nat) : List UInt8 := fatom (l.getD k (0, [])).1 (l.getD k (0, [])).2
/-- A query's text as far as its first `k` atoms. -/
def fqTo (h : List Int) (l : List AtomD) : Nat → List UInt8
  | 0 => fhead h
  | k + 1 => if k = 0 then fhead h ++ ([32, 58, 45, 32] ++ atText l 0) else fqTo h l k ++ ([59, 32] ++ atText l k)
theorem fqTo_0 (h : List Int) (l : List AtomD) : fqTo h l (0 + 1) = fhead h ++ ([32, 58, 45, 32] ++ atText l 0) := rfl
theorem fqTo_s (h : List Int) (l : List AtomD) {k : Nat} (hk : k ≠ 0) : fqTo h l (k + 1) = fqTo h l k ++ ([59, 32] ++ atText l k) := by
  show (if k = 0 then _ else _) = _; rw [if_neg hk]
def fquery (d : QueryD) : List UInt8 := if termsB d.1 && inB d.2.length 1 8 then (if d.2.all (fun x => fatom x.1 x.2 != []) then fqTo d.1 d.2 d.2.length else []) else []
theorem atText_at {l : List AtomD} {k : Nat} {e : AtomD} (h : l[k]? = some e) : atText l k = fatom e.1 e.2 := by
  unfold atText; simp [List.getD, h]
theorem atText_le {l : List AtomD} (hl : ∀ (j : Nat) (e : AtomD), l[j]? = some e → inI e.1 ∧ ∀ x ∈ e.2, inI x) (k : Nat) : (atText l k).length ≤ 100 := by
  cases h : l[k]? with
  | some e => rw [atText_at h]; exact fatom_le (hl k e h).1 (hl k e h).2
  | none =>
    unfold atText
    have hg : l.getD k ((0, []) : AtomD) = (0, []) := by simp [List.getD, h]
    rw [hg]
    exact fatom_le (by unfold inI; omega) (by simp)
theorem fhead_le {h : List Int} (h1 : ∀ x ∈ h, inI x) (h2 : h.length ≤ 3) : (fhead h).length ≤ 100 := by
  unfold fhead
  split
  · simp
  · have := flist_len h h1; omega
theorem fqTo_le {h : List Int} {l : List AtomD} (h0 : (fhead h).length ≤ 100) (hl : ∀ (j : Nat) (e : AtomD), l[j]? = some e → inI e.1 ∧ ∀ x ∈ e.2, inI x) (k : Nat) : (fqTo h l k).length ≤ 100 + 104 * k := by
  induction k with
  | zero => simpa [fqTo] using h0
  | succ k ih =>
    have h5 := atText_le hl k
    by_cases hk : k = 0
    · subst hk
      rw [fqTo_0]; simp only [List.length_append, List.length_cons, List.length_nil]; omega
    · rw [fqTo_s _ _ hk]; simp only [List.length_append, List.length_cons, List.length_nil]; omega
theorem fquery_1 {d : QueryD} (h : termsB d.1 = false) : fquery d = [] := by unfold fquery; rw [h]; rfl
theorem fquery_2 {d : QueryD} (h : termsB d.1 = true) (h2 : inB d.2.length 1 8 = false) : fquery d = [] := by unfold fquery; rw [h, h2]; rfl
theorem fquery_3 {d : QueryD} (h : termsB d.1 = true) (h2 : inB d.2.length 1 8 = true) : fquery d = (if d.2.all (fun x => fatom x.1 x.2 != []) then fqTo d.1 d.2 d.2.length else []) := by unfold fquery; rw [h, h2]; rfl

theorem allA_no' {l : List AtomD} {p : AtomD → Bool} {i : Nat} {x : AtomD} (h : l[i]? = some x) (h2 : p x = false) : l.all p = false := by
  rw [Bool.eq_false_iff]
  intro hc
  rw [List.all_eq_true.1 hc x (List.mem_of_getElem? h)] at h2
  cases h2
theorem allA_yes' {l : List AtomD} {p : AtomD → Bool} (h : ∀ (j : Nat) (x : AtomD), l[j]? = some x → p x = true) : l.all p = true := by
  rw [List.all_eq_true]
  intro x hx
  obtain ⟨j, hj⟩ := List.mem_iff_getElem?.1 hx
  exact h j x hj

set_option maxRecDepth 100000 in
set_option maxHeartbeats 8000000 in
theorem sFormatQuery_any (w : World) (v : Value) (d : QueryD) (h : RdQuery w v d) :
    Calls Tryz.prog 18 #[v] w (GaveV (.string (bs (fquery d))) w) := by
  obtain ⟨ha, hn0, hc0, a, n, c, rfl, hi, h⟩ := h
  obtain ⟨hl, hn, hm, hcell⟩ := h.at
  unfold maxLen at hm
  have hb0 : ∀ a, Below w.heap.size w (w.alloc a) := fun a => (Below.refl _ _).alloc (Nat.le_refl _) _
  have HB0 := Lib.hid hb0
  have HIV := Lib.hid hi
  have hT := Lib.hid (fun w h => sTerms_any w (.slice ha hn0 hc0) d.1 h)
  have hI := Lib.hid (fun w => l1In_any n 1 8 w)
  cases h1 : termsB d.1 with
  | false =>
    have HQ := Lib.hid (fquery_1 h1)
    rw [h1] at hT
    clear h hl hcell hi hb0 h1
    go_enter Tryz.func18, Tryz.ntmps18
    go_wp2_with fail
    refine (hT.out _ (HIV.out.below (HB0.out _))).mono ?_
    rintro e W ⟨rfl, hb⟩
    have HBW := Lib.hid (bnext (HB0.out _) hb)
    clear hb
    go_wp2_with fail
    go_ret
    exact ⟨ret_str' (by rw [HQ.out]), HBW.out⟩
  | true =>
    have h3 : d.1.length ≤ 3 := by
      have h2 := h1
      unfold termsB at h2
      rw [Bool.and_eq_true] at h2
      exact of_decide_eq_true h2.2
    rw [h1] at hT
    cases h2 : inB n 1 8 with
    | false =>
      have HQ := Lib.hid (fquery_2 h1 (by rw [hl]; exact h2))
      rw [h2] at hI
      clear h hl hcell hi hb0 h1 h2 h3
      go_enter Tryz.func18, Tryz.ntmps18
      go_wp2_with fail
      refine (hT.out _ (HIV.out.below (HB0.out _))).mono ?_
      rintro e W ⟨rfl, hb⟩
      have HBW := Lib.hid (bnext (HB0.out _) hb)
      have kq1 := cellk hb (b := w.heap.size) (o := 1) (v := .slice a n c) (by simp)
      clear hb
      go_wp2_with fail
      refine (hI.out _).mono ?_
      rintro e W2 ⟨rfl, rfl⟩
      go_wp2_with fail
      go_ret
      exact ⟨ret_str' (by rw [HQ.out]), HBW.out⟩
    | true =>
      have HQ4 := Lib.hid (fquery_3 h1 (by rw [hl]; exact h2))
      have hn8 : n ≤ 8 := by
        unfold inB at h2
        simp at h2
        omega
      rw [h2] at hI
      have HC := Lib.hid hcell
      have HL := Lib.hid hl
      have HLI : Hid (∀ (j : Nat) (e : AtomD), d.2[j]? = some e → inI e.1 ∧ ∀ x ∈ e.2, inI x) := by
        intro j e hj
        have hjn : j < n := by rw [← hl]; exact (List.getElem?_eq_some_iff.1 hj).1
        obtain ⟨b, off, _, _, hc⟩ := hcell (by omega)
        obtain ⟨_, _, _, _, _, hdi, hints⟩ := atomAt (n := n) hc j e hj
        exact ⟨hdi, hints.1⟩
      have hfh := fhead_le hi.1 h3
      have HFH := Lib.hid hfh
      obtain ⟨_, _, _, e1, hl0, hn1, hm1, hcell0⟩ := hi.cases
      cases e1
      have HL0 := Lib.hid hl0
      unfold maxLen at hm1
      have hFL := Lib.hid (fun w h => sList_any w (.slice ha hn0 hc0) d.1 h (by omega))
      have hFA := Lib.hid (fun w r v' l hr h => sFormatAtom_any w r v' l hr h)
      clear h hl hcell hi hb0 h1 h2 hl0 hcell0
      go_enter Tryz.func18, Tryz.ntmps18
      go_wp2_with fail
      refine (hT.out _ (HIV.out.below (HB0.out _))).mono ?_
      rintro e W ⟨rfl, hb⟩
      have HBW := Lib.hid (bnext (HB0.out _) hb)
      have kq := cellk hb (b := w.heap.size) (o := 0) (v := .slice ha hn0 hc0) (by simp)
      have kq1 := cellk hb (b := w.heap.size) (o := 1) (v := .slice a n c) (by simp)
      clear hb
      go_wp2_with fail
      refine (hI.out _).mono ?_
      rintro e W2 ⟨rfl, rfl⟩
      go_wp2_with fail
      refine (hFL.out _ (HIV.out.below HBW.out)).mono ?_
      rintro e W2 ⟨rfl, hb⟩
      have HBW2 := Lib.hid (bnext HBW.out hb)
      replace kq := cellk hb kq
      replace kq1 := cellk hb kq1
      have KQ1 := Lib.hid kq1
      clear hb
      obtain ⟨FH, hFH⟩ : ∃ F, fhead d.1 = F := ⟨_, rfl⟩
      have HFE := Lib.hid hFH
      rw [hFH] at hfh
      have hlen := HL0.out
      have HFF : Hid (FH = if hn0 = 0 then [121, 101, 115] else flist d.1) := by
        unfold Hid; rw [← hFH]; unfold fhead
        by_cases hz : hn0 = 0
        · rw [if_pos hz, if_pos (List.length_eq_zero_iff.1 (by omega))]
        · rw [if_neg hz, if_neg (fun e => hz (by rw [← hlen, e]; rfl))]
      have hF0 : FH.length ≤ 100 := hfh
      have HF0 : Hid (fqTo d.1 d.2 0 = FH) := hFH
      generalize flist d.1 = FL at *
      clear hFH hfh HFE HFH hlen HL0
      by_cases hz : hn0 = 0
      all_goals
        first | rw [if_pos hz] at HFF | rw [if_neg hz] at HFF
        (try (have hz3 : ((hn0 : Int) == 0) = false := by rw [beq_eq_false_iff_ne]; omega))
        try subst hz
        try clear hz
        go_wp2_with fail
        try clear hz3
        go_loopw [3, 4, 5] (fun sv iv _ wr => ∃ i : Nat, i ≤ n ∧ iv = .int .i64 i ∧ sv = .string (bs (fqTo d.1 d.2 i)) ∧ Below W2.heap.size W2 wr ∧ Hid (∀ (j : Nat) (x : AtomD), j < i → d.2[j]? = some x → (fatom x.1 x.2 != []) = true)) (fun _ iv _ _ => n - (intOf iv).toNat)
        case atStart => exact ⟨0, by omega, rfl, by first | (rw [HF0.out, HFF.out]; done) | (rw [HF0.out, HFF.out]; rfl), Below.refl _ _, fun j x hj => by omega⟩
        case round =>
          obtain ⟨i, hi, rfl, rfl, hb, HE⟩ := hrel
          have HB := Lib.hid hb
          have kq1 := cellk hb KQ1.out
          by_cases hlt : i < n
          · obtain ⟨b, off, rfl, hbw, hc⟩ := HC.out (by omega)
            obtain ⟨e, hd⟩ : ∃ e, d.2[i]? = some e := ⟨d.2[i]'(by rw [HL.out]; exact hlt), List.getElem?_eq_getElem (by rw [HL.out]; exact hlt)⟩
            obtain ⟨ea, em, ec, c0, c1, hdi, hints⟩ := atomAt (n := n) hc i e hd
            have hww := bnext HBW2.out hb
            have k0 := cellk hww c0
            have k1 := cellk hww c1
            have HD := Lib.hid hd
            have hi0 : (0 : Int) ≤ i := by omega
            have hi1 : (i : Int) < n := by omega
            have hcall := Lib.hid (fun wv h => hFA.out wv e.1 (.slice ea em ec) e.2 hdi h)
            have HIN := Lib.hid (hints.below hww)
            have hle := fqTo_le (h := d.1) (l := d.2) (by rw [show fhead d.1 = FH from HF0.out]; exact hF0) HLI i
            have hta := atText_le HLI i
            have HTE := Lib.hid (atText_at hd)
            rw [HTE.out] at hta
            have HT0 : Hid (i = 0 → fqTo d.1 d.2 (i + 1) = fqTo d.1 d.2 i ++ ([32, 58, 45, 32] ++ fatom e.1 e.2)) := by
              intro h0; subst h0; rw [← HTE.out]; rfl
            have HT1 : Hid (i ≠ 0 → fqTo d.1 d.2 (i + 1) = fqTo d.1 d.2 i ++ ([59, 32] ++ fatom e.1 e.2)) := by
              intro h0; rw [← HTE.out]; exact fqTo_s _ _ h0
            have HNE := Lib.hid (fun (x : AtomD) (e' : x = e) (h : (fatom e.1 e.2 != []) = true) => (by rw [e']; exact h : (fatom x.1 x.2 != []) = true))
            have HNO := Lib.hid (fun (h : fatom e.1 e.2 = []) => (allA_no' HD.out (p := fun x => fatom x.1 x.2 != []) (by show (fatom e.1 e.2 != []) = false; rw [h]; rfl)))
            generalize fatom e.1 e.2 = T at *
            generalize e.1 = r at *
            generalize fqTo d.1 d.2 i = S at *
            clear hc hbw hb hd hdi hints c0 c1 hww
            go_wp2_with fail
            refine (hcall.out _ HIN.out).mono ?_
            rintro e2 W3 ⟨rfl, hb3⟩
            have HB3 := Lib.hid (bnext HB.out hb3)
            clear hb3
            cases T with
            | nil =>
              have HNO2 := Lib.hid (HNO.out rfl)
              clear HNO HNE
              go_wp2_with fail
              go_ret
              exact ⟨ret_str' (by rw [HQ4.out, HNO2.out]; rfl), bnext HBW2.out HB3.out⟩
            | cons t0 T0 =>
              have HNE2 := Lib.hid (fun (x : AtomD) (e' : x = e) => HNE.out x e' rfl)
              have HEN : Hid (∀ (j : Nat) (x : AtomD), j < i + 1 → d.2[j]? = some x → (fatom x.1 x.2 != []) = true) := by
                intro j x hj h5
                rcases Nat.lt_or_ge j i with h7 | h7
                · exact HE.out j x h7 h5
                · obtain rfl : j = i := by omega
                  rw [HD.out] at h5
                  exact HNE2.out x (Option.some.inj h5).symm
              clear HNO HNE HE
              generalize hTT : t0 :: T0 = T at *
              have hq : (T == []) = false := by rw [← hTT]; rfl
              clear hTT
              by_cases h0 : i = 0
              · have HS := Lib.hid (HT0.out h0)
                clear HT0 HT1
                have hi3 : ((i : Int) == 0) = true := by rw [h0]; rfl
                clear h0
                go_wp2_with fail
                exact ⟨⟨i + 1, by omega, by simp, by rw [HS.out]; simp only [bs_mk]; simp, HB3.out, HEN.out⟩, by simp [intOf]; omega⟩
              · have HS := Lib.hid (HT1.out h0)
                have hi2 : (0 : Int) < i := by omega
                clear HT0 HT1 h0
                go_wp2_with fail
                exact ⟨⟨i + 1, by omega, by simp, by rw [HS.out]; simp only [bs_mk]; simp, HB3.out, HEN.out⟩, by simp [intOf]; omega⟩
          · obtain rfl : i = n := by omega
            have HALL : Hid (d.2.all (fun x => fatom x.1 x.2 != []) = true) := allA_yes' (fun j x h5 => HE.out j x (by rw [← HL.out]; exact (List.getElem?_eq_some_iff.1 h5).1) h5)
            clear hb
            go_wp2_with fail
            go_ret
            exact ⟨ret_str' (by rw [HQ4.out, HALL.out, if_pos rfl, HL.out]), bnext HBW2.out HB.out⟩
end Go.Proofs.YtchcifikopmfoaaGreatDoor
