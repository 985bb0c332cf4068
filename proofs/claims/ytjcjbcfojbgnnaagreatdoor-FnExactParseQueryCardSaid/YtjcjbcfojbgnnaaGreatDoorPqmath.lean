/- Plain facts: a formatted query is read back, by spec's way and by the program's way, and both ways agree. -/
import Derived.Test.YtjcjbcfojbgnnaaGreatDoorPamath
import Derived.Test.YtjcjbcfojbgnnaaGreatDoorSpquery
import Derived.Test.YtjcjbcfojbgnnaaGreatDoorJn
namespace Go.Proofs.YtjcjbcfojbgnnaaGreatDoor
open Go.RowKit
set_option linter.unusedVariables false

theorem flist_jn (l : List Int) : flist l = jn [44] (l.map ftext) := by rw [← jn_join, flist_join]
theorem index_c (b : UInt8) (l sub : List UInt8) : Lib.index (b :: l) sub = if sub.isPrefixOf (b :: l) then 0 else if Lib.index l sub == -1 then -1 else Lib.index l sub + 1 := rfl
theorem index_pre (t r : List UInt8) (c : UInt8) : Lib.index (c :: t ++ r) (c :: t) = 0 := by
  rw [List.cons_append, index_c, if_pos]
  exact List.isPrefixOf_iff_prefix.2 ⟨r, rfl⟩
theorem notPre {b c : UInt8} (h : b ≠ c) (t l : List UInt8) : (c :: t).isPrefixOf (b :: l) = false := by
  show (c == b && t.isPrefixOf l) = false
  rw [beq_eq_false_iff_ne.2 (Ne.symm h)]; rfl
theorem index_appS (a r t : List UInt8) (c : UInt8) (h : ∀ b ∈ a, b ≠ c) : Lib.index (a ++ (c :: t ++ r)) (c :: t) = a.length := by
  induction a with
  | nil => exact index_pre t r c
  | cons b a ih =>
    rw [List.cons_append, index_c, notPre (h b (by simp)), ih (fun x hx => h x (by simp [hx]))]
    have : ((((a.length : Nat) : Int)) == -1) = false := by rw [beq_eq_false_iff_ne]; omega
    rw [this]; simp
theorem index_notS (a t : List UInt8) (c : UInt8) (h : ∀ b ∈ a, b ≠ c) : Lib.index a (c :: t) = -1 := by
  induction a with
  | nil => rfl
  | cons b a ih => rw [index_c, notPre (h b (by simp)), ih (fun x hx => h x (by simp [hx]))]; rfl
/-- What is cut at a separator's places is the parts. -/
theorem splitK_jn (c : UInt8) (t : List UInt8) (ts : List (List UInt8)) (hne : ts ≠ []) (h : ∀ x ∈ ts, ∀ b ∈ x, b ≠ c) : ∀ k, ts.length ≤ k + 1 → Lib.splitK (c :: t) 0 k (jn (c :: t) ts) = ts := by
  induction ts with
  | nil => exact absurd rfl hne
  | cons x l ih =>
    have hx := h x (by simp)
    intro k hk
    cases l with
    | nil =>
      cases k with
      | zero => rfl
      | succ k =>
        have e : Lib.index (jn (c :: t) [x]) (c :: t) = -1 := index_notS _ _ _ hx
        unfold Lib.splitK; rw [e]; rfl
    | cons y r =>
      cases k with
      | zero => simp at hk
      | succ k =>
        have e : jn (c :: t) (x :: y :: r) = x ++ (c :: t ++ jn (c :: t) (y :: r)) := rfl
        have hi : Lib.index (jn (c :: t) (x :: y :: r)) (c :: t) = x.length := by rw [e]; exact index_appS _ _ _ _ hx
        unfold Lib.splitK
        rw [hi]
        have hn : ((((x.length : Nat)) : Int) == -1) = false := by rw [beq_eq_false_iff_ne]; omega
        rw [hn]
        have e3 : (jn (c :: t) (x :: y :: r)).drop ((((x.length : Nat)) : Int).toNat + (c :: t).length) = jn (c :: t) (y :: r) := by
          rw [e, Int.toNat_natCast, ← List.drop_drop, List.drop_left, List.drop_left]
        have e4 : (jn (c :: t) (x :: y :: r)).take ((((x.length : Nat)) : Int).toNat + 0) = x := by
          rw [e, Int.toNat_natCast, Nat.add_zero, List.take_left]
        rw [e3, e4, ih (by simp) (fun z hz => h z (by simp [hz])) k (by simp at hk ⊢; omega)]
        rfl
theorem index_occ (s sub : List UInt8) (i : Nat) (h : Lib.index s sub = i) : ∃ r, s.drop i = sub ++ r := by
  induction s generalizing i with
  | nil =>
    unfold Lib.index at h
    split at h
    · rename_i h2
      have : sub = [] := by simpa using h2
      subst this; exact ⟨[], by simp⟩
    · omega
  | cons b l ih =>
    rw [index_c] at h
    split at h
    · rename_i h2
      obtain rfl : i = 0 := by omega
      obtain ⟨r, hr⟩ := List.isPrefixOf_iff_prefix.1 h2
      exact ⟨r, hr.symm⟩
    · split at h
      · omega
      · have hg := Lib.index_ge l sub
        have hn : ¬ (Lib.index l sub = -1) := by rename_i h2; simpa using h2
        obtain ⟨r, hr⟩ := ih (i - 1) (by omega)
        obtain ⟨j, rfl⟩ : ∃ j, i = j + 1 := ⟨i - 1, by omega⟩
        exact ⟨r, by simpa using hr⟩
theorem splitK_ne (sep : List UInt8) (k : Nat) (s : List UInt8) : Lib.splitK sep 0 k s ≠ [] := by
  cases k with
  | zero => simp [Lib.splitK]
  | succ k => unfold Lib.splitK; split <;> simp
/-- The parts together are the text. -/
theorem jn_splitK (sep : List UInt8) : ∀ (k : Nat) (s : List UInt8), jn sep (Lib.splitK sep 0 k s) = s := by
  intro k
  induction k with
  | zero => intro s; rfl
  | succ k ih =>
    intro s
    unfold Lib.splitK
    split
    · rfl
    · rename_i h
      have hg := Lib.index_ge s sep
      have hn : ¬ (Lib.index s sep = -1) := by simpa using h
      obtain ⟨i, hi⟩ := Int.eq_ofNat_of_zero_le (by omega : 0 ≤ Lib.index s sep)
      obtain ⟨r, hr⟩ := index_occ s sep i hi
      rw [hi, Int.toNat_natCast, Nat.add_zero]
      cases hq : Lib.splitK sep 0 k (s.drop (i + sep.length)) with
      | nil => exact absurd hq (splitK_ne _ _ _)
      | cons y t =>
        have e : jn sep (s.take i :: y :: t) = s.take i ++ (sep ++ jn sep (y :: t)) := rfl
        rw [e, ← hq, ih, ← List.drop_drop, hr, List.drop_left, ← hr, List.take_append_drop]
theorem cut_back {s sep : List UInt8} (h : (Lib.cut s sep).2.2 = true) : s = (Lib.cut s sep).1 ++ (sep ++ (Lib.cut s sep).2.1) := by
  unfold Lib.cut at h ⊢
  split at h
  · rename_i h0
    obtain ⟨i, hi⟩ := Int.eq_ofNat_of_zero_le h0
    obtain ⟨r, hr⟩ := index_occ s sep i hi
    rw [if_pos h0]
    simp only [hi, Int.toNat_natCast]
    rw [← List.drop_drop, hr, List.drop_left, ← hr, List.take_append_drop]
  · cases h
theorem cut_app (a r t : List UInt8) (c : UInt8) (h : ∀ b ∈ a, b ≠ c) : Lib.cut (a ++ (c :: t ++ r)) (c :: t) = (a, r, true) := by
  have hi := index_appS a r t c h
  unfold Lib.cut
  rw [hi, if_pos (by omega), Int.toNat_natCast, List.take_left, ← List.drop_drop, List.drop_left, List.drop_left]

/- The words of a text. -/
theorem t_back {p : List UInt8} (h : tOk p = true) : ftext (tRes p) = p ∧ termB (tRes p) = true := by
  have h2 := h
  unfold tOk at h2
  rw [Bool.and_eq_true] at h2
  have h3 := of_decide_eq_true h2.2
  have h4 : tRes p = tcand p := by unfold tRes; rw [if_pos h]
  rw [h4]
  refine ⟨h3, ?_⟩
  cases hb : termB (tcand p) with
  | true => rfl
  | false =>
    have := ftext_nil hb
    rw [h3] at this
    rw [this] at h2
    simp at h2
theorem terms_back {l : List (List UInt8)} (h : l.all tOk = true) : (l.map tRes).map ftext = l ∧ ∀ x ∈ l.map tRes, termB x = true := by
  rw [List.all_eq_true] at h
  constructor
  · rw [List.map_map]
    exact (List.map_congr_left (g := id) fun x hx => (t_back (h x hx)).1).trans (List.map_id l)
  · intro x hx
    obtain ⟨p, hp, rfl⟩ := List.mem_map.1 hx
    exact (t_back (h p hp)).2
theorem pa_back {p : List UInt8} (h : paOk p = true) : fatom (paRes p).1 (paRes p).2 = p ∧ p ≠ [] := by
  have hy := pa_yes h
  have h2 := h
  unfold paOk at h2
  rw [Bool.and_eq_true, Bool.and_eq_true] at h2
  rw [hy]
  refine ⟨of_decide_eq_true h2.2.2, fun e => ?_⟩
  have := of_decide_eq_true h2.1
  rw [e] at this; simp at this
theorem atoms_back {l : List (List UInt8)} (h : l.all paOk = true) : (l.map paRes).map fa = l := by
  rw [List.all_eq_true] at h
  rw [List.map_map]
  exact (List.map_congr_left (g := id) fun x hx => (pa_back (h x hx)).1).trans (List.map_id l)
theorem flist_chars {l : List Int} (h : ∀ x ∈ l, termB x = true) : ∀ b ∈ flist l, isDig b = true ∨ b = 88 ∨ b = 44 := by
  induction l with
  | nil => intro b hb; simp [flist] at hb
  | cons x l ih =>
    cases l with
    | nil =>
      intro b hb
      rcases ftext_clean (h x (by simp)) b (by simpa [flist] using hb) with h1 | h1
      · exact .inl h1
      · exact .inr (.inl h1)
    | cons y t =>
      have e : flist (x :: y :: t) = ftext x ++ 44 :: flist (y :: t) := rfl
      intro b hb
      rw [e] at hb
      rcases List.mem_append.1 hb with hb | hb
      · rcases ftext_clean (h x (by simp)) b hb with h1 | h1
        · exact .inl h1
        · exact .inr (.inl h1)
      · rcases List.mem_cons.1 hb with hb | hb
        · exact .inr (.inr hb)
        · exact ih (fun z hz => h z (by simp [hz])) b hb
theorem flist_no {l : List Int} (h : ∀ x ∈ l, termB x = true) (c : UInt8) (h1 : isDig c = false) (h2 : c ≠ 88) (h3 : c ≠ 44) : ∀ b ∈ flist l, b ≠ c := by
  intro b hb e
  rcases flist_chars h b hb with h4 | h4 | h4
  · rw [e, h1] at h4; cases h4
  · exact h2 (e ▸ h4)
  · exact h3 (e ▸ h4)
theorem fhead_no {h : List Int} (hh : ∀ x ∈ h, termB x = true) : ∀ b ∈ fhead h, b ≠ 32 := by
  intro b hb
  unfold fhead at hb
  split at hb
  · intro e; subst e; simp at hb
  · exact flist_no hh 32 (by decide) (by decide) (by decide) b hb
theorem flist_yes {h : List Int} (hh : ∀ x ∈ h, termB x = true) : flist h ≠ [121, 101, 115] := by
  intro e
  exact flist_no hh 121 (by decide) (by decide) (by decide) 121 (by rw [e]; simp) rfl
theorem fatom_no {r : Int} {l : List Int} (h : okAtom r l) : ∀ b ∈ fatom r l, b ≠ 59 := by
  obtain ⟨d, hd, hd4, hf⟩ := fatom_ok h
  intro b hb
  rw [hf] at hb
  simp only [List.mem_cons, List.mem_append, List.not_mem_nil, or_false] at hb
  rcases hb with rfl | rfl | rfl | hb | rfl
  · decide
  · rcases hd4 with rfl | rfl | rfl | rfl <;> decide
  · decide
  · exact flist_no h.2.2.2 59 (by decide) (by decide) (by decide) b hb
  · decide

/-- A query that has a text and is read back. -/
def goodQ (d : QueryD) : Prop := termsB d.1 = true ∧ 1 ≤ d.2.length ∧ d.2.length ≤ 4 ∧ ∀ x ∈ d.2, okAtom x.1 x.2
theorem terms_of {l : List Int} (h : termsB l = true) : (∀ x ∈ l, termB x = true) ∧ l.length ≤ 3 := by
  unfold termsB at h
  rw [Bool.and_eq_true, List.all_eq_true] at h
  exact ⟨h.1, of_decide_eq_true h.2⟩
theorem goodQ_of {s : List Int} {d : QueryD} (h : fineB s d 4 = true) : goodQ d := by
  unfold fineB at h
  rw [Bool.and_eq_true, Bool.and_eq_true, Bool.and_eq_true, Bool.and_eq_true] at h
  obtain ⟨h1, h2, h3, h4, h5⟩ := h
  have h3 := of_decide_eq_true h3
  refine ⟨h2, by omega, by omega, fun x hx => ?_⟩
  have hx := List.all_eq_true.1 h4 x hx
  unfold isAtomB at hx
  rw [Bool.and_eq_true, Bool.and_eq_true, Bool.and_eq_true] at hx
  have h6 := of_decide_eq_true hx.1.1.2
  unfold isSchemaB at h1
  rw [Bool.and_eq_true] at h1
  have h7 := of_decide_eq_true h1.2
  obtain ⟨h8, h9⟩ := terms_of hx.2
  exact ⟨by omega, by omega, h9, h8⟩
theorem fquery_good {d : QueryD} (h : goodQ d) : fquery d = fhead d.1 ++ ([32, 58, 45, 32] ++ jn [59, 32] (d.2.map fa)) := by
  obtain ⟨h1, h2, h3, h4⟩ := h
  rw [fquery_3 h1 (decide_eq_true (by omega))]
  have hall : d.2.all (fun x => fatom x.1 x.2 != []) = true := by
    rw [List.all_eq_true]
    intro x hx
    obtain ⟨c, _, _, hf⟩ := fatom_ok (h4 x hx)
    rw [hf]; rfl
  rw [if_pos hall]
  obtain ⟨k, hk⟩ : ∃ k, d.2.length = k + 1 := ⟨d.2.length - 1, by omega⟩
  rw [hk, fqTo_jn _ _ _ (by omega), ← hk, List.take_of_length_le (Nat.le_refl _)]

/- Spec's way. -/
theorem cutGo_jn (x : List UInt8) (l : List (List UInt8)) (part : List UInt8) (h : ∀ y ∈ x :: l, ∀ b ∈ y, b ≠ 59) : cutGo 59 (jn [59, 32] (x :: l)) part = (part ++ x) :: l.map (32 :: ·) := by
  induction l generalizing x part with
  | nil =>
    have e : jn [59, 32] [x] = x ++ [] := by simp [jn]
    rw [e, cutGo_app _ _ _ _ (h x (by simp))]; rfl
  | cons y t ih =>
    have e : jn [59, 32] (x :: y :: t) = x ++ (59 :: 32 :: jn [59, 32] (y :: t)) := rfl
    rw [e, cutGo_app _ _ _ _ (h x (by simp))]
    have e2 : cutGo 59 (59 :: 32 :: jn [59, 32] (y :: t)) (part ++ x) = (part ++ x) :: cutGo 59 (jn [59, 32] (y :: t)) [32] := by
      simp [cutGo]
    rw [e2, ih y [32] (fun z hz => h z (by simp at hz ⊢; right; exact hz))]
    rfl
theorem pqAtoms_jn (x : List UInt8) (l : List (List UInt8)) (k : Nat) (hk : k ≤ (x :: l).length) : pqAtoms (x :: l.map (32 :: ·)) k = ((x :: l).take k).map paRes := by
  induction k with
  | zero => rfl
  | succ k ih =>
    have hk' : k < (x :: l).length := hk
    rw [pqAtoms, ih (by omega), List.take_succ_eq_append_getElem hk', List.map_append, List.map_cons, List.map_nil]
    congr 2
    cases k with
    | zero => rfl
    | succ k =>
      have hk2 : k < l.length := by simpa using hk'
      unfold pqT
      rw [if_pos (by omega)]
      simp [List.getD, List.getElem?_eq_getElem hk2]
theorem map_paRes_fa {l : List AtomD} (h : ∀ x ∈ l, okAtom x.1 x.2) : (l.map fa).map paRes = l ∧ (l.map fa).all paOk = true := by
  constructor
  · rw [List.map_map]
    refine (List.map_congr_left (g := id) fun x hx => ?_).trans (List.map_id l)
    exact (spec_back (h x hx)).2
  · rw [List.all_map, List.all_eq_true]
    exact fun x hx => (spec_back (h x hx)).1
theorem fa_no {l : List AtomD} (h : ∀ x ∈ l, okAtom x.1 x.2) : ∀ y ∈ l.map fa, ∀ b ∈ y, b ≠ 59 := by
  intro y hy
  obtain ⟨x, hx, rfl⟩ := List.mem_map.1 hy
  exact fatom_no (h x hx)
theorem specQ_back {d : QueryD} (h : goodQ d) : firstSep (fquery d) = some (fhead d.1).length ∧ pqAt (fquery d) (fhead d.1).length = d := by
  have hf := fquery_good h
  obtain ⟨h1, h2, h3, h4⟩ := h
  obtain ⟨ht, ht3⟩ := terms_of h1
  constructor
  · refine firstSep_some ?_ ?_ ?_
    · rw [hf]; simp only [List.length_append, List.length_cons, List.length_nil]; omega
    · unfold isSepB
      rw [hf, List.drop_left]
      rfl
    · intro j hj
      refine decide_eq_false fun e => ?_
      rw [hf, List.drop_append_of_le_length (by omega)] at e
      have e2 := congrArg (·[0]?) e
      have hj2 : (fhead d.1)[j]? = some (fhead d.1)[j] := List.getElem?_eq_getElem hj
      have e3 : some (fhead d.1)[j] = some (32 : UInt8) := by
        rw [← hj2]
        have := e2
        simp only [List.getElem?_take] at this
        rw [if_pos (by omega), List.getElem?_append_left (by rw [List.length_drop]; omega), List.getElem?_drop, Nat.add_zero] at this
        exact this
      exact fhead_no ht _ (List.getElem_mem hj) (Option.some.inj e3)
  · unfold pqAt
    have e1 : (fquery d).take (fhead d.1).length = fhead d.1 := by rw [hf, List.take_left]
    have e2 : (fquery d).drop ((fhead d.1).length + 4) = jn [59, 32] (d.2.map fa) := by
      rw [hf, ← List.drop_drop, List.drop_left]; rfl
    have e3 : pqHead (fhead d.1) = d.1 := by
      unfold pqHead fhead
      by_cases h0 : d.1 = []
      · rw [if_pos h0, if_pos rfl, h0]
      · rw [if_neg h0, if_neg (flist_yes ht), pargs_flist _ ht]
    have hbody := fa_no h4
    have hres := (map_paRes_fa h4).1
    have e4 : pqAtoms (pqParts (fquery d) (fhead d.1).length) (pqParts (fquery d) (fhead d.1).length).length = d.2 := by
      unfold pqParts cutL
      rw [e2]
      cases hm : d.2.map fa with
      | nil => have := congrArg List.length hm; simp at this; rw [this] at h2; simp at h2
      | cons x l =>
        rw [hm] at hbody hres
        rw [cutGo_jn x l [] hbody, List.nil_append, pqAtoms_jn x l _ (by simp), List.take_of_length_le (by simp), hres]
    rw [e1, e3, e4]

/- The program's way. -/
def qCut (l : List UInt8) : List UInt8 × List UInt8 × Bool := Lib.cut l [32, 58, 45, 32]
def qHeadOk (h : List UInt8) : Bool := decide (h = [121, 101, 115]) || (Lib.splitN h [44] 3).all tOk
def qHeadVal (h : List UInt8) : List Int := if h = [121, 101, 115] then [] else (Lib.splitN h [44] 3).map tRes
def qParts (l : List UInt8) : List (List UInt8) := Lib.splitN (qCut l).2.1 [59, 32] 4
def rqOk (l : List UInt8) : Bool := (qCut l).2.2 && (qHeadOk (qCut l).1 && (qParts l).all paOk)
def rqVal (l : List UInt8) : QueryD := (qHeadVal (qCut l).1, (qParts l).map paRes)
theorem splitN_flist {l : List Int} (hne : l ≠ []) (h3 : l.length ≤ 3) (h : ∀ x ∈ l, termB x = true) : Lib.splitN (flist l) [44] 3 = l.map ftext := by
  unfold Lib.splitN
  refine splitK_flist l hne h _ ?_
  have h1 := List.length_pos_iff.2 hne
  have h2 := List.length_pos_iff.2 (flist_ne hne h)
  by_cases hl2 : 2 ≤ l.length
  · have := flist_two hl2 h
    omega
  · omega
theorem jn_long (sep : List UInt8) (l : List (List UInt8)) (hs : 1 ≤ sep.length) : l.length ≤ (jn sep l).length + 1 := by
  induction l with
  | nil => simp
  | cons x l ih =>
    cases l with
    | nil => simp
    | cons y t =>
      have e : jn sep (x :: y :: t) = x ++ (sep ++ jn sep (y :: t)) := rfl
      rw [e]
      simp only [List.length_append, List.length_cons] at ih ⊢
      omega
theorem progQ_back {d : QueryD} (h : goodQ d) : rqOk (fquery d) = true ∧ rqVal (fquery d) = d := by
  have hf := fquery_good h
  obtain ⟨h1, h2, h3, h4⟩ := h
  obtain ⟨ht, ht3⟩ := terms_of h1
  have e1 : qCut (fquery d) = (fhead d.1, jn [59, 32] (d.2.map fa), true) := by
    unfold qCut
    rw [hf]
    exact cut_app (fhead d.1) _ [58, 45, 32] 32 (fhead_no ht)
  have e2 : qParts (fquery d) = d.2.map fa := by
    unfold qParts Lib.splitN
    rw [e1]
    have hl := jn_long [59, 32] (d.2.map fa) (by decide)
    rw [List.length_map] at hl
    refine splitK_jn 59 [32] (d.2.map fa) ?_ (fa_no h4) _ ?_
    · intro e; have := congrArg List.length e; simp at this; rw [this] at h2; simp at h2
    · rw [List.length_map]
      show d.2.length ≤ min 4 ((jn [59, 32] (d.2.map fa)).length + 1) - 1 + 1
      omega
  obtain ⟨p1, p2⟩ := map_paRes_fa h4
  have e3 : qHeadOk (fhead d.1) = true ∧ qHeadVal (fhead d.1) = d.1 := by
    unfold qHeadOk qHeadVal fhead
    by_cases h0 : d.1 = []
    · rw [if_pos h0, if_pos rfl, h0]; exact ⟨rfl, rfl⟩
    · rw [if_neg h0, if_neg (flist_yes ht), splitN_flist h0 ht3 ht]
      constructor
      · rw [Bool.or_eq_true]; right
        rw [List.all_map, List.all_eq_true]
        exact fun x hx => (t_trip (ht x hx)).1
      · rw [List.map_map]
        refine (List.map_congr_left (g := id) fun x hx => ?_).trans (List.map_id _)
        exact (t_trip (ht x hx)).2
  unfold rqOk rqVal
  rw [e1, e2]
  exact ⟨by rw [e3.1, p2]; rfl, by rw [e3.2, p1]⟩
theorem progQ_text {l : List UInt8} (h : rqOk l = true) (hg : goodQ (rqVal l)) : fquery (rqVal l) = l := by
  rw [fquery_good hg]
  unfold rqOk at h
  rw [Bool.and_eq_true, Bool.and_eq_true] at h
  obtain ⟨h1, h2, h3⟩ := h
  have hc := cut_back (s := l) (sep := [32, 58, 45, 32]) h1
  have e1 : fhead (rqVal l).1 = (qCut l).1 := by
    unfold rqVal qHeadVal fhead
    unfold qHeadOk at h2
    by_cases hy : (qCut l).1 = [121, 101, 115]
    · rw [if_pos hy, if_pos rfl, hy]
    · rw [decide_eq_false hy, Bool.false_or] at h2
      obtain ⟨p1, p2⟩ := terms_back h2
      rw [if_neg hy, if_neg, flist_jn, p1]
      · unfold Lib.splitN; exact jn_splitK _ _ _
      · intro e
        have := congrArg List.length e
        simp at this
        exact splitK_ne _ _ _ this
  have e2 : jn [59, 32] ((rqVal l).2.map fa) = (qCut l).2.1 := by
    unfold rqVal
    rw [atoms_back h3]
    unfold qParts Lib.splitN
    exact jn_splitK _ _ _
  rw [e1, e2]
  exact hc.symm
/-- Both ways agree. -/
theorem pq_eq_rq (s : List Int) (l : List UInt8) : pqOk s l = (rqOk l && fineB s (rqVal l) 4) ∧ (pqOk s l = true → pqRes s l = rqVal l) := by
  cases hp : pqOk s l with
  | true =>
    unfold pqOk at hp
    unfold pqRes
    cases hf : firstSep l with
    | none => rw [hf] at hp; cases hp
    | some i =>
      rw [hf] at hp
      simp only at hp ⊢
      rw [if_pos hp]
      unfold pqOkAt at hp
      rw [Bool.and_eq_true] at hp
      have ht := of_decide_eq_true hp.2
      obtain ⟨b1, b2⟩ := progQ_back (goodQ_of hp.1)
      rw [ht] at b1 b2
      rw [b1, b2]
      exact ⟨hp.1.symm, fun _ => rfl⟩
  | false =>
    refine ⟨?_, fun e => by cases e⟩
    symm
    rw [Bool.eq_false_iff]
    intro hc
    rw [Bool.and_eq_true] at hc
    have hg := goodQ_of hc.2
    have ht := progQ_text hc.1 hg
    obtain ⟨b1, b2⟩ := specQ_back hg
    rw [ht] at b1 b2
    have : pqOk s l = true := by
      unfold pqOk
      rw [b1]
      show pqOkAt s l _ = true
      unfold pqOkAt
      rw [b2, hc.2, decide_eq_true ht]; rfl
    rw [hp] at this; cases this
end Go.Proofs.YtjcjbcfojbgnnaaGreatDoor
