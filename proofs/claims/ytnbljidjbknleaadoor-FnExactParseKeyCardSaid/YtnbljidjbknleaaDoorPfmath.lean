/- Plain facts: a formatted fact is read back, by spec's way and by the program's way. -/
import Derived.Test.YtnbljidjbknleaaDoorSpfact
import Derived.Test.YtnbljidjbknleaaDoorPamath
import Derived.Test.YtnbljidjbknleaaDoorJnP
namespace Go.Proofs.YtnbljidjbknleaaDoor
open Go.RowKit
set_option linter.unusedVariables false

/-- A fact of some schema. -/
def okFact (r : Int) (l : List Int) : Prop := 0 ≤ r ∧ r < 4 ∧ 1 ≤ l.length ∧ l.length ≤ 3 ∧ ∀ x ∈ l, 0 ≤ x ∧ x ≤ 99
theorem okFact_of {s : List Int} {r : Int} {l : List Int} (h : isFactB s r l = true) : okFact r l := by
  have h3 := fact_len h
  unfold isFactB at h
  rw [Bool.and_eq_true, Bool.and_eq_true, Bool.and_eq_true] at h
  have h1 := h.1.1.1
  have h2 := of_decide_eq_true h.1.1.2
  have h4 := of_decide_eq_true h.1.2
  unfold isSchemaB at h1
  rw [Bool.and_eq_true, List.all_eq_true] at h1
  have h5 := of_decide_eq_true (h1.1 _ (getD_mem (l := s) (j := r.toNat) (by omega)))
  have h6 := of_decide_eq_true h1.2
  refine ⟨h2.1, by omega, by omega, h3, fun x hx => ?_⟩
  exact of_decide_eq_true (List.all_eq_true.1 h.2 x hx)
theorem ok_parse {x : Int} (h : 0 ≤ x ∧ x ≤ 99) : sOk (Lib.itoa x) = true ∧ sRes (Lib.itoa x) = x := parse_small h.1 (by omega)
theorem ok_comma {x : Int} (h : 0 ≤ x ∧ x ≤ 99) : ∀ b ∈ Lib.itoa x, b ≠ 44 := fun b hb => digit_ne (List.all_eq_true.1 (itoa_pos_all h.1) _ hb) 44 (by decide)
theorem ffact_ok {r : Int} {l : List Int} (h : okFact r l) : ∃ d : UInt8, Lib.itoa r = [d] ∧ (d = 48 ∨ d = 49 ∨ d = 50 ∨ d = 51) ∧ ffact r l = 114 :: d :: 40 :: (vlist l ++ [41]) := by
  obtain ⟨h0, h4, h1, h3, ht⟩ := h
  obtain ⟨d, hd, hd4⟩ := itoa_one h0 h4
  refine ⟨d, hd, hd4, ?_⟩
  rw [ffact_4 (decide_eq_true ⟨h0, by omega⟩) (decide_eq_true ⟨by omega, by omega⟩) (fun j hj => decide_eq_true (ht _ (getD_mem hj))), hd]; rfl
theorem cutL_jn (ts : List (List UInt8)) (hne : ts ≠ []) (h : ∀ x ∈ ts, ∀ b ∈ x, b ≠ 44) : cutL 44 (jn [44] ts) = ts := by
  unfold cutL
  induction ts with
  | nil => exact absurd rfl hne
  | cons x l ih =>
    have hx := h x (by simp)
    cases l with
    | nil =>
      have := cutGo_app 44 x [] [] hx
      rw [List.append_nil] at this
      show cutGo 44 x [] = [x]
      rw [this]; rfl
    | cons y t =>
      have e : jn [44] (x :: y :: t) = x ++ 44 :: jn [44] (y :: t) := rfl
      rw [e, cutGo_app 44 _ _ _ hx]
      have e2 : ∀ (r p : List UInt8), cutGo 44 (44 :: r) p = p :: cutGo 44 r [] := fun r p => by
        rw [cutGo]; exact if_pos rfl
      rw [e2, ih (by simp) (fun z hz => h z (by simp [hz]))]
      rfl
theorem texts_ok {l : List Int} (h : ∀ x ∈ l, 0 ≤ x ∧ x ≤ 99) : ∀ x ∈ l.map Lib.itoa, ∀ b ∈ x, b ≠ 44 := by
  intro x hx
  obtain ⟨y, hy, rfl⟩ := List.mem_map.1 hx
  exact ok_comma (h y hy)
theorem map_back {f : List UInt8 → Int} {l : List Int} (h : ∀ x ∈ l, 0 ≤ x ∧ x ≤ 99) (hf : ∀ p, sOk p = true → f p = sRes p) : (l.map Lib.itoa).map f = l := by
  rw [List.map_map]
  refine (List.map_congr_left (g := id) fun x hx => ?_).trans (List.map_id l)
  obtain ⟨h1, h2⟩ := ok_parse (h x hx)
  show f (Lib.itoa x) = x
  rw [hf _ h1, h2]
theorem vlist_ne {l : List Int} (h : 1 ≤ l.length) : 1 ≤ (vlist l).length := by
  have : vlist l ≠ [] := jn_ne _ _ (by intro e; rw [List.map_eq_nil_iff] at e; rw [e] at h; simp at h) (fun x hx => by obtain ⟨y, _, rfl⟩ := List.mem_map.1 hx; exact itoa_ne_nil y)
  exact List.length_pos_iff.2 this

/-- Spec's way reads it back. -/
theorem spec_backF {r : Int} {l : List Int} (h : okFact r l) : pfVal (ffact r l) = (r, l) ∧ sOk (pfRel (ffact r l)) = true ∧ 5 ≤ (ffact r l).length := by
  obtain ⟨d, hd, hd4, hf⟩ := ffact_ok h
  have e1 : pfRel (ffact r l) = Lib.itoa r := by rw [hf, hd]; rfl
  have e2 : pfMid (ffact r l) = vlist l := by
    rw [hf]; unfold pfMid
    have hz : (114 :: d :: 40 :: (vlist l ++ [41])).length - 1 = (114 :: d :: 40 :: vlist l).length := by simp
    rw [hz, show (114 :: d :: 40 :: (vlist l ++ [41]) : List UInt8) = (114 :: d :: 40 :: vlist l) ++ [41] from rfl, List.take_left']
    · rfl
    · rfl
  obtain ⟨p1, p2⟩ := parse_small (n := r) h.1 (by have := h.2.1; omega)
  have hv := vlist_ne h.2.2.1
  refine ⟨?_, by rw [e1]; exact p1, by rw [hf]; simp; omega⟩
  unfold pfVal
  rw [e1, p2, e2]
  unfold vlist
  rw [cutL_jn _ (by intro e; rw [List.map_eq_nil_iff] at e; have := h.2.2.1; rw [e] at this; simp at this) (texts_ok h.2.2.2.2), map_back h.2.2.2.2 (fun p hp => by unfold pint1; rw [if_pos hp])]

/- The program's way. -/
def rfOk (s : List UInt8) : Bool := rOk0 s && (rParts s).all sOk
def rfVal (s : List UInt8) : Int × List Int := (sRes (rDig s), (rParts s).map sRes)
theorem prog_backF {r : Int} {l : List Int} (h : okFact r l) : rfOk (ffact r l) = true ∧ rfVal (ffact r l) = (r, l) := by
  obtain ⟨d, hd, hd4, hf⟩ := ffact_ok h
  have e0 : Lib.hasSuffix (ffact r l) [41] = true := by
    rw [hf]; unfold Lib.hasSuffix
    rw [List.isSuffixOf_iff_suffix]
    exact ⟨114 :: d :: 40 :: vlist l, rfl⟩
  have e1 : rIn (ffact r l) = 114 :: d :: 40 :: vlist l := by
    unfold rIn Lib.trimSuffix
    rw [if_pos e0, hf]
    rw [show (114 :: d :: 40 :: (vlist l ++ [41]) : List UInt8) = (114 :: d :: 40 :: vlist l) ++ [41] from rfl]
    simp
  have e2 : rCut (ffact r l) = ([114, d], vlist l, true) := by
    have hi : Lib.index (114 :: d :: 40 :: vlist l) [40] = 2 := by
      have := index_app [114, d] (vlist l) 40 (fun b hb => by
        simp at hb
        rcases hb with rfl | rfl
        · decide
        · rcases hd4 with rfl | rfl | rfl | rfl <;> decide)
      exact this
    unfold rCut Lib.cut
    rw [e1, hi]
    rfl
  have e3 : rDig (ffact r l) = Lib.itoa r := by
    unfold rDig; rw [e2, hd]; rfl
  obtain ⟨p1, p2⟩ := parse_small (n := r) h.1 (by have := h.2.1; omega)
  have e4 : rOk0 (ffact r l) = true := by
    unfold rOk0; rw [e0, e2, e3, p1]; rfl
  have h1 := h.2.2.1
  have h3 := h.2.2.2.1
  have e5 : rParts (ffact r l) = l.map Lib.itoa := by
    unfold rParts Lib.splitN
    rw [e2]
    have hl := jn_long [44] (l.map Lib.itoa) (Nat.le_refl _)
    rw [List.length_map] at hl
    exact splitK_jn 44 [] (l.map Lib.itoa) (by intro e; rw [List.map_eq_nil_iff] at e; rw [e] at h1; simp at h1) (texts_ok h.2.2.2.2) _ (by
      rw [List.length_map]
      show l.length ≤ min 3 ((vlist l).length + 1) - 1 + 1
      unfold vlist
      omega)
  refine ⟨?_, ?_⟩
  · unfold rfOk
    rw [e4, e5, Bool.true_and, List.all_map, List.all_eq_true]
    exact fun x hx => (ok_parse (h.2.2.2.2 x hx)).1
  · unfold rfVal
    rw [e3, p2, e5, map_back h.2.2.2.2 (fun p hp => rfl)]
theorem itoa_sRes {p : List UInt8} (h : sOk p = true) : Lib.itoa (sRes p) = p := by
  have e : sRes p = sval p (pv (p.take 11)) := by unfold sRes; rw [if_pos h]
  rw [e]
  unfold sOk at h
  rw [Bool.and_eq_true] at h
  exact of_decide_eq_true h.2
theorem suffix_back {s p : List UInt8} (h : Lib.hasSuffix s p = true) : s = Lib.trimSuffix s p ++ p := by
  unfold Lib.trimSuffix
  rw [if_pos h]
  unfold Lib.hasSuffix at h
  rw [List.isSuffixOf_iff_suffix] at h
  obtain ⟨t, rfl⟩ := h
  simp
theorem prefix_back {s p : List UInt8} (h : Lib.hasPrefix s p = true) : s = p ++ Lib.trimPrefix s p := by
  unfold Lib.trimPrefix
  rw [if_pos h]
  unfold Lib.hasPrefix at h
  rw [List.isPrefixOf_iff_prefix] at h
  obtain ⟨t, rfl⟩ := h
  simp
/-- What the program reads is the text of what it has read. -/
theorem text_back {s : List UInt8} (h : rfOk s = true) : s = 114 :: (Lib.itoa (rfVal s).1 ++ 40 :: (vlist (rfVal s).2 ++ [41])) := by
  unfold rfOk rOk0 at h
  rw [Bool.and_eq_true, Bool.and_eq_true, Bool.and_eq_true, Bool.and_eq_true] at h
  obtain ⟨⟨⟨⟨h1, h2⟩, h3⟩, h4⟩, h5⟩ := h
  have e1 := suffix_back h1
  have e2 := cut_back h2
  have e3 := prefix_back h3
  change s = rIn s ++ [41] at e1
  change rIn s = (rCut s).1 ++ ([40] ++ (rCut s).2.1) at e2
  change (rCut s).1 = [114] ++ rDig s at e3
  have e4 : vlist (rfVal s).2 = (rCut s).2.1 := by
    unfold vlist rfVal
    rw [List.map_map]
    have : (rParts s).map (Lib.itoa ∘ sRes) = rParts s := (List.map_congr_left (g := id) fun x hx => itoa_sRes (List.all_eq_true.1 h5 x hx)).trans (List.map_id _)
    rw [this]
    exact jn_splitK _ _ _
  have e5 : Lib.itoa (rfVal s).1 = rDig s := itoa_sRes h4
  rw [e4, e5]
  refine e1.trans ?_
  rw [e2, e3]
  simp
/-- Both ways agree. -/
theorem pf_eq_rf (sc : List Int) (s : List UInt8) : pfOk sc s = (rfOk s && isFactB sc (rfVal s).1 (rfVal s).2) ∧ (pfOk sc s = true → pfVal s = rfVal s) := by
  cases hp : pfOk sc s with
  | true =>
    unfold pfOk at hp
    rw [Bool.and_eq_true, Bool.and_eq_true, Bool.and_eq_true] at hp
    have hs := of_decide_eq_true hp.2.2.2
    have hf := hp.2.2.1
    have hok := okFact_of hf
    obtain ⟨b1, b2⟩ := prog_backF hok
    rw [hs] at b1 b2
    rw [b1, b2, hf]
    exact ⟨rfl, fun _ => rfl⟩
  | false =>
    refine ⟨?_, fun e => by cases e⟩
    symm
    rw [Bool.eq_false_iff]
    intro hc
    rw [Bool.and_eq_true] at hc
    have ht := text_back hc.1
    have hok := okFact_of hc.2
    have hft : ffact (rfVal s).1 (rfVal s).2 = s := by
      obtain ⟨h0, h4, h1, h3, hv⟩ := hok
      rw [ffact_4 (decide_eq_true ⟨h0, by omega⟩) (decide_eq_true ⟨by omega, by omega⟩) (fun j hj => decide_eq_true (hv _ (getD_mem hj)))]
      exact ht.symm
    obtain ⟨g1, g2, g3⟩ := spec_backF hok
    rw [hft] at g1 g2 g3
    have : pfOk sc s = true := by
      unfold pfOk
      rw [decide_eq_true g3, g2, g1]
      show (true && (true && (isFactB sc (rfVal s).1 (rfVal s).2 && decide (ffact (rfVal s).1 (rfVal s).2 = s)))) = true
      rw [hc.2, decide_eq_true hft]; rfl
    rw [this] at hp
    cases hp
end Go.Proofs.YtnbljidjbknleaaDoor
