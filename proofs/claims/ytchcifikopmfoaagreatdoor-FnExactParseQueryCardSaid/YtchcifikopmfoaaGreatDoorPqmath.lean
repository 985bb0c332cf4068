/- Plain facts: a formatted query is read back, by spec's way and by the program's way, and both ways agree. -/
import Derived.Test.YtchcifikopmfoaaGreatDoorPamath
import Derived.Test.YtchcifikopmfoaaGreatDoorSpquery
import Derived.Test.YtchcifikopmfoaaGreatDoorJn
namespace Go.Proofs.YtchcifikopmfoaaGreatDoor
open Go.RowKit
set_option linter.unusedVariables false

theorem flist_jn (l : List Int) : flist l = jn [44] (l.map ftext) := by rw [← jn_join, flist_join]
/- The words of a text. -/
theorem t_back {p : List UInt8} (h : tOk p = true) : ftext (tRes p) = p ∧ termB (tRes p) = true := by
  have h2 := h
  unfold tOk at h2
  rw [Bool.and_eq_true] at h2
  have h3 := of_decide_eq_true h2.2
  have h4 : tRes p = tcand p := by unfold tRes; rw [if_pos h]
  rw [h4]
  refine ⟨h3, ?_⟩
  cases hb : termB (tcand p) with
  | true => rfl
  | false =>
    have := ftext_nil hb
    rw [h3] at this
    rw [this] at h2
    simp at h2
theorem terms_back {l : List (List UInt8)} (h : l.all tOk = true) : (l.map tRes).map ftext = l ∧ ∀ x ∈ l.map tRes, termB x = true := by
  rw [List.all_eq_true] at h
  constructor
  · rw [List.map_map]
    exact (List.map_congr_left (g := id) fun x hx => (t_back (h x hx)).1).trans (List.map_id l)
  · intro x hx
    obtain ⟨p, hp, rfl⟩ := List.mem_map.1 hx
    exact (t_back (h p hp)).2
theorem pa_back {p : List UInt8} (h : paOk p = true) : fatom (paRes p).1 (paRes p).2 = p ∧ p ≠ [] := by
  have hy := pa_yes h
  have h2 := h
  unfold paOk at h2
  rw [Bool.and_eq_true, Bool.and_eq_true] at h2
  rw [hy]
  refine ⟨of_decide_eq_true h2.2.2, fun e => ?_⟩
  have := of_decide_eq_true h2.1
  rw [e] at this; simp at this
theorem atoms_back {l : List (List UInt8)} (h : l.all paOk = true) : (l.map paRes).map fa = l := by
  rw [List.all_eq_true] at h
  rw [List.map_map]
  exact (List.map_congr_left (g := id) fun x hx => (pa_back (h x hx)).1).trans (List.map_id l)
theorem flist_chars {l : List Int} (h : ∀ x ∈ l, termB x = true) : ∀ b ∈ flist l, isDig b = true ∨ b = 88 ∨ b = 44 := by
  induction l with
  | nil => intro b hb; simp [flist] at hb
  | cons x l ih =>
    cases l with
    | nil =>
      intro b hb
      rcases ftext_clean (h x (by simp)) b (by simpa [flist] using hb) with h1 | h1
      · exact .inl h1
      · exact .inr (.inl h1)
    | cons y t =>
      have e : flist (x :: y :: t) = ftext x ++ 44 :: flist (y :: t) := rfl
      intro b hb
      rw [e] at hb
      rcases List.mem_append.1 hb with hb | hb
      · rcases ftext_clean (h x (by simp)) b hb with h1 | h1
        · exact .inl h1
        · exact .inr (.inl h1)
      · rcases List.mem_cons.1 hb with hb | hb
        · exact .inr (.inr hb)
        · exact ih (fun z hz => h z (by simp [hz])) b hb
theorem flist_no {l : List Int} (h : ∀ x ∈ l, termB x = true) (c : UInt8) (h1 : isDig c = false) (h2 : c ≠ 88) (h3 : c ≠ 44) : ∀ b ∈ flist l, b ≠ c := by
  intro b hb e
  rcases flist_chars h b hb with h4 | h4 | h4
  · rw [e, h1] at h4; cases h4
  · exact h2 (e ▸ h4)
  · exact h3 (e ▸ h4)
theorem fhead_no {h : List Int} (hh : ∀ x ∈ h, termB x = true) : ∀ b ∈ fhead h, b ≠ 32 := by
  intro b hb
  unfold fhead at hb
  split at hb
  · intro e; subst e; simp at hb
  · exact flist_no hh 32 (by decide) (by decide) (by decide) b hb
theorem flist_yes {h : List Int} (hh : ∀ x ∈ h, termB x = true) : flist h ≠ [121, 101, 115] := by
  intro e
  exact flist_no hh 121 (by decide) (by decide) (by decide) 121 (by rw [e]; simp) rfl
theorem fatom_no {r : Int} {l : List Int} (h : okAtom r l) : ∀ b ∈ fatom r l, b ≠ 59 := by
  obtain ⟨d, hd, hd4, hf⟩ := fatom_ok h
  intro b hb
  rw [hf] at hb
  simp only [List.mem_cons, List.mem_append, List.not_mem_nil, or_false] at hb
  rcases hb with rfl | rfl | rfl | hb | rfl
  · decide
  · rcases hd4 with rfl | rfl | rfl | rfl <;> decide
  · decide
  · exact flist_no h.2.2.2 59 (by decide) (by decide) (by decide) b hb
  · decide

/-- A query that has a text and is read back. -/
def goodQ (d : QueryD) : Prop := termsB d.1 = true ∧ 1 ≤ d.2.length ∧ d.2.length ≤ 4 ∧ ∀ x ∈ d.2, okAtom x.1 x.2
theorem terms_of {l : List Int} (h : termsB l = true) : (∀ x ∈ l, termB x = true) ∧ l.length ≤ 3 := by
  unfold termsB at h
  rw [Bool.and_eq_true, List.all_eq_true] at h
  exact ⟨h.1, of_decide_eq_true h.2⟩
theorem goodQ_of {s : List Int} {d : QueryD} (h : fineB s d 4 = true) : goodQ d := by
  unfold fineB at h
  rw [Bool.and_eq_true, Bool.and_eq_true, Bool.and_eq_true, Bool.and_eq_true] at h
  obtain ⟨h1, h2, h3, h4, h5⟩ := h
  have h3 := of_decide_eq_true h3
  refine ⟨h2, by omega, by omega, fun x hx => ?_⟩
  have hx := List.all_eq_true.1 h4 x hx
  unfold isAtomB at hx
  rw [Bool.and_eq_true, Bool.and_eq_true, Bool.and_eq_true] at hx
  have h6 := of_decide_eq_true hx.1.1.2
  unfold isSchemaB at h1
  rw [Bool.and_eq_true] at h1
  have h7 := of_decide_eq_true h1.2
  obtain ⟨h8, h9⟩ := terms_of hx.2
  exact ⟨by omega, by omega, h9, h8⟩
theorem fquery_good {d : QueryD} (h : goodQ d) : fquery d = fhead d.1 ++ ([32, 58, 45, 32] ++ jn [59, 32] (d.2.map fa)) := by
  obtain ⟨h1, h2, h3, h4⟩ := h
  rw [fquery_3 h1 (decide_eq_true (by omega))]
  have hall : d.2.all (fun x => fatom x.1 x.2 != []) = true := by
    rw [List.all_eq_true]
    intro x hx
    obtain ⟨c, _, _, hf⟩ := fatom_ok (h4 x hx)
    rw [hf]; rfl
  rw [if_pos hall]
  obtain ⟨k, hk⟩ : ∃ k, d.2.length = k + 1 := ⟨d.2.length - 1, by omega⟩
  rw [hk, fqTo_jn _ _ _ (by omega), ← hk, List.take_of_length_le (Nat.le_refl _)]

/- Spec's way. -/
theorem cutGo_jn (x : List UInt8) (l : List (List UInt8)) (part : List UInt8) (h : ∀ y ∈ x :: l, ∀ b ∈ y, b ≠ 59) : cutGo 59 (jn [59, 32] (x :: l)) part = (part ++ x) :: l.map (32 :: ·) := by
  induction l generalizing x part with
  | nil =>
    have e : jn [59, 32] [x] = x ++ [] := by simp [jn]
    rw [e, cutGo_app _ _ _ _ (h x (by simp))]; rfl
  | cons y t ih =>
    have e : jn [59, 32] (x :: y :: t) = x ++ (59 :: 32 :: jn [59, 32] (y :: t)) := rfl
    rw [e, cutGo_app _ _ _ _ (h x (by simp))]
    have e2 : cutGo 59 (59 :: 32 :: jn [59, 32] (y :: t)) (part ++ x) = (part ++ x) :: cutGo 59 (jn [59, 32] (y :: t)) [32] := by
      simp [cutGo]
    rw [e2, ih y [32] (fun z hz => h z (by simp at hz ⊢; right; exact hz))]
    rfl
theorem pqAtoms_jn (x : List UInt8) (l : List (List UInt8)) (k : Nat) (hk : k ≤ (x :: l).length) : pqAtoms (x :: l.map (32 :: ·)) k = ((x :: l).take k).map paRes := by
  induction k with
  | zero => rfl
  | succ k ih =>
    have hk' : k < (x :: l).length := hk
    rw [pqAtoms, ih (by omega), List.take_succ_eq_append_getElem hk', List.map_append, List.map_cons, List.map_nil]
    congr 2
    cases k with
    | zero => rfl
    | succ k =>
      have hk2 : k < l.length := by simpa using hk'
      unfold pqT
      rw [if_pos (by omega)]
      simp [List.getD, List.getElem?_eq_getElem hk2]
theorem map_paRes_fa {l : List AtomD} (h : ∀ x ∈ l, okAtom x.1 x.2) : (l.map fa).map paRes = l ∧ (l.map fa).all paOk = true := by
  constructor
  · rw [List.map_map]
    refine (List.map_congr_left (g := id) fun x hx => ?_).trans (List.map_id l)
    exact (spec_back (h x hx)).2
  · rw [List.all_map, List.all_eq_true]
    exact fun x hx => (spec_back (h x hx)).1
theorem fa_no {l : List AtomD} (h : ∀ x ∈ l, okAtom x.1 x.2) : ∀ y ∈ l.map fa, ∀ b ∈ y, b ≠ 59 := by
  intro y hy
  obtain ⟨x, hx, rfl⟩ := List.mem_map.1 hy
  exact fatom_no (h x hx)
theorem specQ_back {d : QueryD} (h : goodQ d) : firstSep (fquery d) = some (fhead d.1).length ∧ pqAt (fquery d) (fhead d.1).length = d := by
  have hf := fquery_good h
  obtain ⟨h1, h2, h3, h4⟩ := h
  obtain ⟨ht, ht3⟩ := terms_of h1
  constructor
  · refine firstSep_some ?_ ?_ ?_
    · rw [hf]; simp only [List.length_append, List.length_cons, List.length_nil]; omega
    · unfold isSepB
      rw [hf, List.drop_left]
      rfl
    · intro j hj
      refine decide_eq_false fun e => ?_
      rw [hf, List.drop_append_of_le_length (by omega)] at e
      have e2 := congrArg (·[0]?) e
      have hj2 : (fhead d.1)[j]? = some (fhead d.1)[j] := List.getElem?_eq_getElem hj
      have e3 : some (fhead d.1)[j] = some (32 : UInt8) := by
        rw [← hj2]
        have := e2
        simp only [List.getElem?_take] at this
        rw [if_pos (by omega), List.getElem?_append_left (by rw [List.length_drop]; omega), List.getElem?_drop, Nat.add_zero] at this
        exact this
      exact fhead_no ht _ (List.getElem_mem hj) (Option.some.inj e3)
  · unfold pqAt
    have e1 : (fquery d).take (fhead d.1).length = fhead d.1 := by rw [hf, List.take_left]
    have e2 : (fquery d).drop ((fhead d.1).length + 4) = jn [59, 32] (d.2.map fa) := by
      rw [hf, ← List.drop_drop, List.drop_left]; rfl
    have e3 : pqHead (fhead d.1) = d.1 := by
      unfold pqHead fhead
      by_cases h0 : d.1 = []
      · rw [if_pos h0, if_pos rfl, h0]
      · rw [if_neg h0, if_neg (flist_yes ht), pargs_flist _ ht]
    have hbody := fa_no h4
    have hres := (map_paRes_fa h4).1
    have e4 : pqAtoms (pqParts (fquery d) (fhead d.1).length) (pqParts (fquery d) (fhead d.1).length).length = d.2 := by
      unfold pqParts cutL
      rw [e2]
      cases hm : d.2.map fa with
      | nil => have := congrArg List.length hm; simp at this; rw [this] at h2; simp at h2
      | cons x l =>
        rw [hm] at hbody hres
        rw [cutGo_jn x l [] hbody, List.nil_append, pqAtoms_jn x l _ (by simp), List.take_of_length_le (by simp), hres]
    rw [e1, e3, e4]

/- The program's way. -/
def qCut (l : List UInt8) : List UInt8 × List UInt8 × Bool := Lib.cut l [32, 58, 45, 32]
def qHeadOk (h : List UInt8) : Bool := decide (h = [121, 101, 115]) || (Lib.splitN h [44] 3).all tOk
def qHeadVal (h : List UInt8) : List Int := if h = [121, 101, 115] then [] else (Lib.splitN h [44] 3).map tRes
def qParts (l : List UInt8) : List (List UInt8) := Lib.splitN (qCut l).2.1 [59, 32] 4
def rqOk (l : List UInt8) : Bool := (qCut l).2.2 && (qHeadOk (qCut l).1 && (qParts l).all paOk)
def rqVal (l : List UInt8) : QueryD := (qHeadVal (qCut l).1, (qParts l).map paRes)
theorem splitN_flist {l : List Int} (hne : l ≠ []) (h3 : l.length ≤ 3) (h : ∀ x ∈ l, termB x = true) : Lib.splitN (flist l) [44] 3 = l.map ftext := by
  unfold Lib.splitN
  refine splitK_flist l hne h _ ?_
  have h1 := List.length_pos_iff.2 hne
  have h2 := List.length_pos_iff.2 (flist_ne hne h)
  by_cases hl2 : 2 ≤ l.length
  · have := flist_two hl2 h
    omega
  · omega
theorem progQ_back {d : QueryD} (h : goodQ d) : rqOk (fquery d) = true ∧ rqVal (fquery d) = d := by
  have hf := fquery_good h
  obtain ⟨h1, h2, h3, h4⟩ := h
  obtain ⟨ht, ht3⟩ := terms_of h1
  have e1 : qCut (fquery d) = (fhead d.1, jn [59, 32] (d.2.map fa), true) := by
    unfold qCut
    rw [hf]
    exact cut_app (fhead d.1) _ [58, 45, 32] 32 (fhead_no ht)
  have e2 : qParts (fquery d) = d.2.map fa := by
    unfold qParts Lib.splitN
    rw [e1]
    have hl := jn_long [59, 32] (d.2.map fa) (by decide)
    rw [List.length_map] at hl
    refine splitK_jn 59 [32] (d.2.map fa) ?_ (fa_no h4) _ ?_
    · intro e; have := congrArg List.length e; simp at this; rw [this] at h2; simp at h2
    · rw [List.length_map]
      show d.2.length ≤ min 4 ((jn [59, 32] (d.2.map fa)).length + 1) - 1 + 1
      omega
  obtain ⟨p1, p2⟩ := map_paRes_fa h4
  have e3 : qHeadOk (fhead d.1) = true ∧ qHeadVal (fhead d.1) = d.1 := by
    unfold qHeadOk qHeadVal fhead
    by_cases h0 : d.1 = []
    · rw [if_pos h0, if_pos rfl, h0]; exact ⟨rfl, rfl⟩
    · rw [if_neg h0, if_neg (flist_yes ht), splitN_flist h0 ht3 ht]
      constructor
      · rw [Bool.or_eq_true]; right
        rw [List.all_map, List.all_eq_true]
        exact fun x hx => (t_trip (ht x hx)).1
      · rw [List.map_map]
        refine (List.map_congr_left (g := id) fun x hx => ?_).trans (List.map_id _)
        exact (t_trip (ht x hx)).2
  unfold rqOk rqVal
  rw [e1, e2]
  exact ⟨by rw [e3.1, p2]; rfl, by rw [e3.2, p1]⟩
theorem progQ_text {l : List UInt8} (h : rqOk l = true) (hg : goodQ (rqVal l)) : fquery (rqVal l) = l := by
  rw [fquery_good hg]
  unfold rqOk at h
  rw [Bool.and_eq_true, Bool.and_eq_true] at h
  obtain ⟨h1, h2, h3⟩ := h
  have hc := cut_back (s := l) (sep := [32, 58, 45, 32]) h1
  have e1 : fhead (rqVal l).1 = (qCut l).1 := by
    unfold rqVal qHeadVal fhead
    unfold qHeadOk at h2
    by_cases hy : (qCut l).1 = [121, 101, 115]
    · rw [if_pos hy, if_pos rfl, hy]
    · rw [decide_eq_false hy, Bool.false_or] at h2
      obtain ⟨p1, p2⟩ := terms_back h2
      rw [if_neg hy, if_neg, flist_jn, p1]
      · unfold Lib.splitN; exact jn_splitK _ _ _
      · intro e
        have := congrArg List.length e
        simp at this
        exact splitK_ne _ _ _ this
  have e2 : jn [59, 32] ((rqVal l).2.map fa) = (qCut l).2.1 := by
    unfold rqVal
    rw [atoms_back h3]
    unfold qParts Lib.splitN
    exact jn_splitK _ _ _
  rw [e1, e2]
  exact hc.symm
/-- Both ways agree. -/
theorem pq_eq_rq (s : List Int) (l : List UInt8) : pqOk s l = (rqOk l && fineB s (rqVal l) 4) ∧ (pqOk s l = true → pqRes s l = rqVal l) := by
  cases hp : pqOk s l with
  | true =>
    unfold pqOk at hp
    unfold pqRes
    cases hf : firstSep l with
    | none => rw [hf] at hp; cases hp
    | some i =>
      rw [hf] at hp
      simp only at hp ⊢
      rw [if_pos hp]
      unfold pqOkAt at hp
      rw [Bool.and_eq_true] at hp
      have ht := of_decide_eq_true hp.2
      obtain ⟨b1, b2⟩ := progQ_back (goodQ_of hp.1)
      rw [ht] at b1 b2
      rw [b1, b2]
      exact ⟨hp.1.symm, fun _ => rfl⟩
  | false =>
    refine ⟨?_, fun e => by cases e⟩
    symm
    rw [Bool.eq_false_iff]
    intro hc
    rw [Bool.and_eq_true] at hc
    have hg := goodQ_of hc.2
    have ht := progQ_text hc.1 hg
    obtain ⟨b1, b2⟩ := specQ_back hg
    rw [ht] at b1 b2
    have : pqOk s l = true := by
      unfold pqOk
      rw [b1]
      show pqOkAt s l _ = true
      unfold pqOkAt
      rw [b2, hc.2, decide_eq_true ht]; rfl
    rw [hp] at this; cases this
end Go.Proofs.YtchcifikopmfoaaGreatDoor
