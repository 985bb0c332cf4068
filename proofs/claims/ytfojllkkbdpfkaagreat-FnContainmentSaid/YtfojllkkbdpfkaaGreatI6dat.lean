/- Merged of I6data, S6f, I6nodup, I6bind. -/
import Derived.Test.YtfojllkkbdpfkaaGreatI6all
import Derived.Test.YtfojllkkbdpfkaaGreatI6srt
import Derived.Test.YtfojllkkbdpfkaaGreatS6all
import Derived.Test.YtfojllkkbdpfkaaGreatI5copy
import Derived.Test.YtfojllkkbdpfkaaGreatBase
/-! I6data -/
namespace Go.Proofs.YtfojllkkbdpfkaaGreat
open Go Go.Sort Go.RowKit
set_option linter.unusedVariables false

/-- The spec's forty numbers and the program's twenty. -/
def Agree (b c : List Int) : Prop := b.length = 40 ∧ b.take 20 = c ∧ ∀ k, k < 20 → (b.getD (20 + k) 0 = 0 ↔ c.getD k 0 = -1)
theorem Agree.at {b c : List Int} (h : Agree b c) {k : Nat} (hk : k < 20) : c.getD k 0 = b.getD k 0 := by
  rw [← h.2.1]; simp [List.getD, hk]
theorem agree_set {b c : List Int} (h : Agree b c) {k : Nat} (hk : k < 20) {v : Int} (hv : 0 ≤ v) : Agree ((b.set k v).set (20 + k) 1) (c.set k v) := by
  obtain ⟨h1, h2, h3⟩ := h
  refine ⟨by simp [h1], ?_, ?_⟩
  · rw [List.take_set, List.take_set, h2]
    rw [List.set_eq_of_length_le]
    rw [List.length_set, ← h2]; simp; omega
  · intro j hj
    have hc : c.length = 20 := by rw [← h2]; simp [h1]
    by_cases e : j = k
    · subst e
      have a1 : ((b.set j v).set (20 + j) 1).getD (20 + j) 0 = 1 := by rw [List.getD_eq_getElem?_getD, List.getElem?_set_self (by simp [h1]; omega)]; rfl
      have a2 : (c.set j v).getD j 0 = v := by rw [List.getD_eq_getElem?_getD, List.getElem?_set_self (by omega)]; rfl
      rw [a1, a2]
      constructor <;> intro hh <;> omega
    · have e2 : ¬ 20 + k = 20 + j := by omega
      have e3 : ¬ k = 20 + j := by omega
      have e4 : ¬ k = j := by omega
      have h4 := h3 j hj
      simp only [List.getD] at h4
      simp [List.getD, e3, e4, h4]
def SameO (x y : Option (List Int)) : Prop := (x = none ∧ y = none) ∨ ∃ b c, x = some b ∧ y = some c ∧ Agree b c
theorem same_step {b c : List Int} (h : Agree b c) {t v : Int} (ht : -80 ≤ t ∧ t < 20) (hv : 0 ≤ v) : SameO (bindStep b t v) (meetStep c t v) := by
  unfold bindStep meetStep
  by_cases h0 : t < 0
  · have e : valD c t = -1 - t := by
      unfold valD
      rw [varB_no (.inl h0)]
      unfold conOf
      rw [conB_yes ht.1 (by omega)]
      rfl
    rw [if_pos h0, e, if_neg (show ¬ (-1 - t = -1) by omega)]
    split
    · exact .inr ⟨_, _, rfl, rfl, h⟩
    · exact .inl ⟨rfl, rfl⟩
  · have hk : t.toNat < 20 := by omega
    have e : valD c t = c.getD t.toNat 0 := by
      unfold valD
      rw [varB_yes (by omega) (by omega)]
      rfl
    rw [if_neg h0, e]
    have h3 := h.2.2 _ hk
    by_cases h4 : c.getD t.toNat 0 = -1
    · rw [if_pos h4, if_pos (h3.2 h4)]
      exact .inr ⟨_, _, rfl, rfl, agree_set h hk hv⟩
    · rw [if_neg h4, if_neg (fun hh => h4 (h3.1 hh)), ← h.at hk]
      split
      · exact .inr ⟨_, _, rfl, rfl, h⟩
      · exact .inl ⟨rfl, rfl⟩
theorem getD_all {p : Int → Prop} {l : List Int} (h : ∀ x ∈ l, p x) (h0 : p 0) (i : Nat) : p (l.getD i 0) := by
  rcases Nat.lt_or_ge i l.length with h1 | h1
  · simp [List.getD, List.getElem?_eq_getElem h1]; exact h _ (List.getElem_mem h1)
  · simp [List.getD, List.getElem?_eq_none h1]; exact h0
theorem same_to {b c args vals : List Int} (h : Agree b c) (ht : ∀ t ∈ args, -80 ≤ t ∧ t < 20) (hv : ∀ v ∈ vals, 0 ≤ v) : ∀ i, SameO (bindTo args vals b i) (meetTo args vals c i)
  | 0 => .inr ⟨_, _, rfl, rfl, h⟩
  | i + 1 => by
    rcases same_to h ht hv i with ⟨h1, h2⟩ | ⟨b', c', h1, h2, h3⟩
    · rw [bindTo_none h1 _ (Nat.le_succ i), meetTo_none h2 _ (Nat.le_succ i)]; exact .inl ⟨rfl, rfl⟩
    · rw [bindTo_next h1, meetTo_next h2]
      exact same_step h3 (getD_all (p := fun t => -80 ≤ t ∧ t < 20) ht (by decide) i) (getD_all (p := fun v => 0 ≤ v) hv (by decide) i)
theorem flat_congr {α β : Type} {f g : α → List β} : ∀ {l : List α}, (∀ x ∈ l, f x = g x) → l.flatMap f = l.flatMap g
  | [], _ => rfl
  | a :: l, h => by rw [List.flatMap_cons, List.flatMap_cons, h a (by simp), flat_congr (fun x hx => h x (by simp [hx]))]
theorem search_eq {db : List AtomD} (hv : ∀ f ∈ db, ∀ v ∈ f.2, 0 ≤ v) : ∀ (al : List AtomD), (∀ x ∈ al, ∀ t ∈ x.2, -80 ≤ t ∧ t < 20) → (∀ x ∈ al, ∀ f ∈ db, x.1 = f.1 → f.2.length = x.2.length) →
    ∀ (b c : List Int), Agree b c → searchN db al b = extD db al c
  | [], _, _, b, c, h => by show [b.take 20] = [c]; rw [h.2.1]
  | a :: rest, ht, hl, b, c, h => by
    rw [searchN_cons, extD_cons]
    refine flat_congr (fun f hf => ?_)
    unfold hitN extF hitD
    by_cases e : a.1 = f.1
    · rw [if_pos ⟨e.symm, hl a (by simp) f hf e⟩, if_pos e]
      unfold bindL meetL
      rcases same_to h (ht a (by simp)) (hv f hf) a.2.length with ⟨h1, h2⟩ | ⟨b', c', h1, h2, h3⟩
      · rw [h1, h2]
      · rw [h1, h2]
        exact search_eq hv rest (fun x hx => ht x (by simp [hx])) (fun x hx => hl x (by simp [hx])) b' c' h3
    · rw [if_neg (fun hh => e hh.1.symm), if_neg e]
theorem agree_empty : Agree emptyB (nob 20) := by
  refine ⟨by simp [emptyB], by simp [emptyB, nob], ?_⟩
  intro k hk
  have : ∀ k : Fin 20, (emptyB.getD (20 + k.1) 0 = 0 ↔ (nob 20).getD k.1 0 = -1) := by decide
  exact this ⟨k, hk⟩
theorem db_vals {s : List Int} {db : List AtomD} (h : isDbB s db = true) : ∀ f ∈ db, ∀ v ∈ f.2, 0 ≤ v := by
  intro f hf v hv
  have h1 := db_fact h f hf
  unfold isFactB at h1
  simp only [Bool.and_eq_true] at h1
  have h2 := List.all_eq_true.1 h1.2 v hv
  unfold valB inB at h2
  exact (of_decide_eq_true h2).1
theorem bind_eq {s : List Int} {d : QueryD} {db : List AtomD} (h1 : fineB s d 4 = true) (h2 : isDbB s db = true) : searchN db d.2 emptyB = bindI s d db := by
  unfold bindI
  rw [if_pos ⟨h1, h2⟩]
  exact search_eq (db_vals h2) d.2 (fine_terms h1) (fine_len2 h1 h2) _ _ agree_empty
theorem bindings_mem (s : List Int) (d : QueryD) (db : List AtomD) (b : List Int) : b ∈ bindingsN s d db ↔ b ∈ bindI s d db := by
  unfold bindingsN
  split
  · rename_i h
    rw [(sortL_once _).2, bind_eq h.1 h.2]
  · rename_i h
    unfold bindI
    rw [if_neg h]
theorem tup_val {b : List Int} {head : List Int} (h : ∀ t ∈ head, -80 ≤ t ∧ t < 20) : tupL head b = head.map (valD b) := by
  unfold tupL
  refine List.map_congr_left (fun t ht => ?_)
  have h1 := h t ht
  unfold tupT valD
  by_cases h0 : t < 0
  · rw [if_pos h0, varB_no (.inl h0)]
    unfold conOf
    rw [conB_yes h1.1 (by omega)]
    rfl
  · rw [if_neg h0, varB_yes (by omega) (by omega)]
    rfl
theorem t3_inj : ∀ {l m : List Int}, l.length = m.length → l.length ≤ 3 → t3 l = t3 m → l = m
  | [], [], _, _, _ => rfl
  | [a], [b], _, _, h => by simpa [t3] using h
  | [a, a'], [b, b'], _, _, h => by simpa [t3] using h
  | [a, a', a''], [b, b', b''], _, _, h => by simpa [t3] using h
  | _ :: _ :: _ :: _ :: _, _, _, h, _ => by simp at h
  | [], _ :: _, h, _, _ => by simp at h
  | [_], [], h, _, _ => by simp at h
  | [_], _ :: _ :: _, h, _, _ => by simp at h
  | [_, _], [], h, _, _ => by simp at h
  | [_, _], [_], h, _, _ => by simp at h
  | [_, _], _ :: _ :: _ :: _, h, _, _ => by simp at h
  | [_, _, _], [], h, _, _ => by simp at h
  | [_, _, _], [_], h, _, _ => by simp at h
  | [_, _, _], [_, _], h, _, _ => by simp at h
  | [_, _, _], _ :: _ :: _ :: _ :: _, h, _, _ => by simp at h
/-- The tuples that are the head under some binding, each once, in order. -/
def answersN (s : List Int) (d : QueryD) (db : List AtomD) : List (List Int) := sortL ((bindingsN s d db).map (tupL d.1)) true
theorem isAns_eq (s : List Int) (d : QueryD) (db : List AtomD) (tup : List Int) : decide (tup ∈ answersN s d db) = isAnsI s d db tup := by
  have hm : tup ∈ answersN s d db ↔ ∃ b ∈ bindI s d db, tupL d.1 b = tup := by
    unfold answersN
    rw [(sortL_once _).2, List.mem_map]
    exact ⟨fun ⟨b, h, e⟩ => ⟨b, (bindings_mem s d db b).1 h, e⟩, fun ⟨b, h, e⟩ => ⟨b, (bindings_mem s d db b).2 h, e⟩⟩
  rw [Bool.eq_iff_iff, decide_eq_true_iff, hm]
  unfold isAnsI
  rw [Bool.and_eq_true, decide_eq_true_iff, List.any_eq_true]
  constructor
  · rintro ⟨b, hb, e⟩
    have hf := (bind_fine (List.length_pos_of_mem hb)).1
    have e2 := tup_val (b := b) (fine_head hf).1
    refine ⟨by rw [← e, tupL, List.length_map], b, hb, ?_⟩
    rw [decide_eq_true_iff, ← e2, e]
  · rintro ⟨hl, b, hb, e⟩
    have hf := (bind_fine (List.length_pos_of_mem hb)).1
    have e2 := tup_val (b := b) (fine_head hf).1
    rw [decide_eq_true_iff] at e
    refine ⟨b, hb, ?_⟩
    rw [e2]
    exact t3_inj (by rw [List.length_map, hl]) (by rw [List.length_map]; exact (fine_head hf).2) e
end Go.Proofs.YtfojllkkbdpfkaaGreat

/-! S6f -/
namespace Go.Proofs.YtfojllkkbdpfkaaGreat
open Go Go.Sort Go.RowKit
set_option linter.unusedVariables false

theorem searchN_row20 (db : List AtomD) (al : List AtomD) (b : List Int) (h : b.length = 40) : ∀ x ∈ searchN db al b, x.length = 20 := by
  induction al generalizing b with
  | nil => intro x hx; simp [searchN] at hx; subst hx; rw [List.length_take, h]; rfl
  | cons a al ih =>
    intro x hx
    rw [searchN_cons] at hx
    obtain ⟨f, _, hf⟩ := List.mem_flatMap.1 hx
    unfold hitN at hf
    split at hf
    · split at hf
      · rename_i b' hb'
        exact ih b' (by rw [bindL_len hb', h]) x hf
      · cases hf
    · cases hf
theorem bindings_row {s : List Int} {d : QueryD} {db : List AtomD} : ∀ b ∈ bindingsN s d db, ∀ t ∈ d.1, t < b.length := by
  intro b hb t ht
  unfold bindingsN at hb
  split at hb
  · rename_i h
    rw [searchN_row20 _ _ _ (by simp [emptyB]) b (sortL_mem b hb)]
    exact ((fine_head h.1).1 t ht).2
  · cases hb
theorem bindings_len (s : List Int) (d : QueryD) (db : List AtomD) : (bindingsN s d db).length ≤ 331776 := by
  unfold bindingsN
  split
  · rename_i h
    rw [← sortTo_all]
    exact Nat.le_trans (sortTo_len _ _ _) (searchN_most _ h.1 h.2)
  · simp

set_option maxRecDepth 100000 in
set_option maxHeartbeats 8000000 in
theorem sAnswers_any (w : World) (vs vq vdb : Value) (s : List Int) (d : QueryD) (db : List AtomD) (hs : RdSchema w vs s) (hq : RdQuery w vq d) (hdb : RdAtomS w vdb db) (hsz : sizeAtomS d.2 ≤ 1048576) (hsz1 : d.1.length ≤ 1048576) :
    Calls Tryz.prog 26 #[vs, vq, vdb] w (GaveO (fun w' v' bs => ROIntSS w' v' (answersN s d db) bs) w) := by
  obtain ⟨a0, n0, c0, a1, n1, c1, e, _⟩ := id hq
  subst e
  obtain ⟨sa, sn, sc, e, _⟩ := id hs
  subst e
  have HB := Lib.hid (fun w' (hb : Below w.heap.size w w') => sBindings_any w' _ _ _ s d db (hs.below hb) (hq.below hb) (hdb.below hb) hsz)
  have HH := Lib.hid (fun w' vb (hb : Below w.heap.size w w') hr => sHeads6_any w' _ vb d (bindingsN s d db) (hq.below hb) hr hsz1 (Nat.le_trans (bindings_len s d db) (by decide)) bindings_row)
  have HS := Lib.hid (fun w' v hr => sSort6_any w' v ((bindingsN s d db).map (tupL d.1)) true hr (fun x hx => by
    obtain ⟨b, _, rfl⟩ := List.mem_map.1 hx
    rw [tupL, List.length_map]; exact hsz1) (by rw [List.length_map]; exact Nat.le_trans (bindings_len s d db) (by decide)))
  clear hs hq hdb hsz hsz1
  go_enter Tryz.func26, Tryz.ntmps26
  go_wp2_with fail
  have hb2 : Below w.heap.size w ((w.alloc (.cells #[.slice sa sn sc] 34)).alloc (.cells #[.slice a0 n0 c0, .slice a1 n1 c1] 38)) := ((Below.refl _ _).alloc (Nat.le_refl _) _).alloc (by simp) _
  have k0 : ((w.alloc (.cells #[.slice sa sn sc] 34)).alloc (.cells #[.slice a0 n0 c0, .slice a1 n1 c1] 38)).cell? ⟨w.heap.size, 0, none⟩ = some (.slice sa sn sc) := by simp
  have k1 : ((w.alloc (.cells #[.slice sa sn sc] 34)).alloc (.cells #[.slice a0 n0 c0, .slice a1 n1 c1] 38)).cell? ⟨w.heap.size + 1, 0, none⟩ = some (.slice a0 n0 c0) := by simp
  have k2 : ((w.alloc (.cells #[.slice sa sn sc] 34)).alloc (.cells #[.slice a0 n0 c0, .slice a1 n1 c1] 38)).cell? ⟨w.heap.size + 1, 1, none⟩ = some (.slice a1 n1 c1) := by simp
  generalize (w.alloc (.cells #[.slice sa sn sc] 34)).alloc (.cells #[.slice a0 n0 c0, .slice a1 n1 c1] 38) = w2 at *
  have HB2 := Lib.hid hb2
  clear hb2
  go_region_law (first
    | (go_simp; go_at_call 12; refine (HB.out _ (HB2.out.trans ((Below.refl _ _).drew.mono HB2.out.size))).mono ?_; rintro e3 w3 ⟨v3, bs3, rfl, ho3, hf3, hb3⟩; have HB3 := Lib.hid (bnext (Below.refl w2.heap.size w2).drew hb3); have HO3 := Lib.hid ho3; have HW3 := Lib.hid (bnext HB2.out HB3.out); have k13 := cellk HB3.out k1; have k23 := cellk HB3.out k2; have k03 := cellk HB3.out k0; clear ho3 hf3 hb3)
    | (go_simp; go_at_call 74; refine (HH.out _ v3 HW3.out HO3.out.rd).mono ?_; rintro e4 w4 ⟨v4, bs4, rfl, ho4, hf4, hb4⟩; have HO4 := Lib.hid ho4; have HW4 := Lib.hid (bnext HW3.out hb4); clear ho4 hf4 hb4)
    | (go_simp; go_at_call 73; refine (HS.out _ v4 HO4.out.rd).mono ?_; rintro e5 w5 ⟨v5, bs5, rfl, ho5, hf5, hb5⟩; have HO5 := Lib.hid ho5; have HF5 := Lib.hid (hf5.wide HW4.out.size (Nat.le_refl _) : Fresh w w5 bs5); have HW5 := Lib.hid (bnext HW4.out hb5); clear ho5 hf5 hb5))
  all_goals (go_wp2_with fail)
  all_goals go_ret
  all_goals exact ⟨_, bs5, rfl, HO5.out, HF5.out, HW5.out⟩

set_option maxRecDepth 100000 in
set_option maxHeartbeats 8000000 in
theorem sIsAnswer_any (w : World) (vs vq vdb vt : Value) (s : List Int) (d : QueryD) (db : List AtomD) (tup : List Int) (hs : RdSchema w vs s) (hq : RdQuery w vq d) (hdb : RdAtomS w vdb db) (ht : Ints w vt tup) (hsz : sizeAtomS d.2 ≤ 1048576) (hsz1 : d.1.length ≤ 1048576) :
    Calls Tryz.prog 47 #[vs, vq, vdb, vt] w (GaveBool w (decide (tup ∈ answersN s d db))) := by
  obtain ⟨a0, n0, c0, a1, n1, c1, e, _⟩ := id hq
  subst e
  obtain ⟨sa, sn, sc, e, _⟩ := id hs
  subst e
  have HA := Lib.hid (fun w' (hb : Below w.heap.size w w') => sAnswers_any w' _ _ _ s d db (hs.below hb) (hq.below hb) (hdb.below hb) hsz hsz1)
  have HH := Lib.hid (fun w' v (hb : Below w.heap.size w w') hr => sHas6_any w' v _ (answersN s d db) tup hr (ht.below hb))
  obtain ⟨ta, tc, rfl⟩ := ht.form
  clear hs hq hdb ht hsz hsz1
  go_enter Tryz.func47, Tryz.ntmps47
  go_wp2_with fail
  have hb2 : Below w.heap.size w ((w.alloc (.cells #[.slice sa sn sc] 34)).alloc (.cells #[.slice a0 n0 c0, .slice a1 n1 c1] 38)) := ((Below.refl _ _).alloc (Nat.le_refl _) _).alloc (by simp) _
  have k0 : ((w.alloc (.cells #[.slice sa sn sc] 34)).alloc (.cells #[.slice a0 n0 c0, .slice a1 n1 c1] 38)).cell? ⟨w.heap.size, 0, none⟩ = some (.slice sa sn sc) := by simp
  have k1 : ((w.alloc (.cells #[.slice sa sn sc] 34)).alloc (.cells #[.slice a0 n0 c0, .slice a1 n1 c1] 38)).cell? ⟨w.heap.size + 1, 0, none⟩ = some (.slice a0 n0 c0) := by simp
  have k2 : ((w.alloc (.cells #[.slice sa sn sc] 34)).alloc (.cells #[.slice a0 n0 c0, .slice a1 n1 c1] 38)).cell? ⟨w.heap.size + 1, 1, none⟩ = some (.slice a1 n1 c1) := by simp
  generalize (w.alloc (.cells #[.slice sa sn sc] 34)).alloc (.cells #[.slice a0 n0 c0, .slice a1 n1 c1] 38) = w2 at *
  have HB2 := Lib.hid hb2
  clear hb2
  refine (HA.out _ HB2.out).mono ?_
  rintro e3 w3 ⟨v3, bs3, rfl, ho3, hf3, hb3⟩
  have HO3 := Lib.hid ho3
  have HW3 := Lib.hid (bnext HB2.out hb3)
  have k03 := cellk hb3 k0
  have k13 := cellk hb3 k1
  have k23 := cellk hb3 k2
  clear ho3 hf3 hb3
  go_wp2_with fail
  refine (HH.out _ v3 HW3.out HO3.out.rd).mono ?_
  rintro e4 w4 ⟨rfl, hb4⟩
  have HW4 := Lib.hid (bnext HW3.out hb4)
  clear hb4
  go_wp2_with fail
  go_ret
  exact ⟨rfl, HW4.out⟩
end Go.Proofs.YtfojllkkbdpfkaaGreat

/-! I6nodup -/
namespace Go.Proofs.YtfojllkkbdpfkaaGreat
open Go Go.Sort Go.RowKit
set_option linter.unusedVariables false

/-- What is bound in b is bound to the same in c. -/
def ExtB (b c : List Int) : Prop := ∀ k, k < 20 → b.getD k 0 ≠ -1 → c.getD k 0 = b.getD k 0
theorem ExtB.refl (b : List Int) : ExtB b b := fun _ _ _ => rfl
theorem ExtB.trans {a b c : List Int} (h : ExtB a b) (k : ExtB b c) : ExtB a c := fun i hi hn => by
  have h1 := h i hi hn
  rw [k i hi (by rw [h1]; exact hn), h1]
theorem ExtB.val {b c : List Int} (h : ExtB b c) {t : Int} (hn : valD b t ≠ -1) : valD c t = valD b t := by
  unfold valD at hn ⊢
  cases hv : varB t with
  | false => rfl
  | true =>
    rw [hv] at hn
    have : 0 ≤ t ∧ t ≤ 19 := of_decide_eq_true hv
    exact h t.toNat (by omega) hn
end Go.Proofs.YtfojllkkbdpfkaaGreat

/-! I6bind -/
namespace Go.Proofs.YtfojllkkbdpfkaaGreat
open Go Go.Sort Go.RowKit Go.Shelf
set_option linter.unusedVariables false
attribute [local go_sem] Oper.semAt_some

def IsCells (W : World) (b : Nat) : Prop := ∃ c T fr, W.heap[b]? = some (.cells c T fr)
theorem IsCells.of_cell {W : World} {a : Addr} {v : Value} (h : W.cell? a = some v) : IsCells W a.block := by
  unfold World.cell? at h
  split at h
  · rename_i c T fr e; exact ⟨c, T, fr, e⟩
  · cases h
theorem cells_blk {E : TypeId} {w0 W : World} {v : Value} {n : Nat} {cs : List Value} (h : BuiltC E 1 w0 W v n cs) : ∀ b ∈ blk v, ∃ c fr, W.heap[b]? = some (.cells c E fr) := by
  intro b hb
  rcases h.1.2 with ⟨rfl, _⟩ | ⟨g, cap, cur, rfl, _, hg, _⟩
  · cases hb
  · simp [blk] at hb
    subst hb
    exact ⟨_, _, hg⟩
theorem IsCells.els {W : World} {cs : List Value} {l : List (List Int)} {bss : List (List Nat)} (h : ElsI W cs l bss) : ∀ b ∈ bss.flatten, IsCells W b := by
  intro b hb
  obtain ⟨bs, hbs, hb2⟩ := List.mem_flatten.1 hb
  obtain ⟨j, hj⟩ := List.mem_iff_getElem?.1 hbs
  have hjl : j < l.length := by rw [← h.1]; exact (List.getElem?_eq_some_iff.1 hj).1
  obtain ⟨a, n, c, e1, e2⟩ := h.2 j l[j] (List.getElem?_eq_getElem hjl)
  have e3 : bss.getD j [] = bs := by simp [List.getD, hj]
  rw [e3] at e2
  rcases e2.2 with ⟨_, _, _, e⟩ | ⟨b', off, n', c', e, hn, rfl, hf⟩
  · rw [e] at hb2; cases hb2
  · cases e
    obtain rfl : b = b' := by simpa using hb2
    rcases e2.1.2 with ⟨a, c, e, hc, _⟩ | ⟨b2, off2, len, c2, e, hl, h1, h2, hlt, hc⟩
    · cases e; omega
    · cases e
      have := hc 0 (by omega)
      exact IsCells.of_cell this
/-- The rows that are found so far, in the variable's box B. -/
def BInv (w W : World) (B : Nat) (l : List (List Int)) : Prop := ∃ ov bss, PInv 22 w W B ov l bss ∧ W.heap[B]? = some (.cells #[ov] 32 (0, 0))
theorem BInv.grow {w W W' : World} {B : Nat} {l : List (List Int)} (h : BInv w W B l) (hb : Below W.heap.size W W') : BInv w W' B l := by
  obtain ⟨ov, bss, h1, h2⟩ := h
  exact ⟨ov, bss, h1.grow hb, (hb.block _ (Array.getElem?_eq_some_iff.1 h2).1).trans h2⟩
theorem PInv.onlyAt {E : TypeId} {w W W' : World} {B : Nat} {ov : Value} {l : List (List Int)} {bss : List (List Nat)} {bs' : List Nat} (h : PInv E w W B ov l bss) (ko : OnlyAt bs' W W') (hW : ∀ x ∈ bs', w.heap.size ≤ x) (hv : ∀ b ∈ blk ov, b ∉ bs') (hn : ∀ b ∈ bss.flatten, b ∉ bs') (hB : B ∉ bs') : PInv E w W' B ov l bss := by
  obtain ⟨p1, p2, p3, p4, p5, p6, p7⟩ := h
  exact ⟨p1.onlyAt ko hW hv hn, ko.cell hB p2, ko.frozen p5 hB p3, p4, Nat.lt_of_lt_of_le p5 ko.size, p6, p7⟩
theorem BInv.own {w : World} {B B' : Nat} {β : Type} (f : β → List (List Int)) (hw : w.heap.size ≤ B') : OwnFrom B' (fun (s : β) W => BInv w W B (f s)) := by
  intro s A A' row ⟨ov, bss, h1, h2⟩ hg hr
  have ko : OnlyAt row.toList A A' := onlyAt_grown _ hg (fun k e => by simp [e])
  have hno : ∀ b, IsCells A b → b ∉ row.toList := by
    rintro b ⟨c, T, fr, e⟩ hb
    obtain ⟨_, o, ho, hc⟩ := hr b (by simpa using hb)
    rw [e] at ho; cases ho; cases hc
  have hbe := h1.1
  obtain ⟨⟨cs, g1, g2⟩, _⟩ := hbe
  refine ⟨ov, bss, h1.onlyAt ko (fun x hx => Nat.le_trans hw (hr x (by simpa using hx)).1) (fun b hb => hno b ?_) (fun b hb => hno b (IsCells.els g2 b hb)) (hno B ⟨_, _, _, h2⟩), (ko.block _ (Array.getElem?_eq_some_iff.1 h2).1 (hno B ⟨_, _, _, h2⟩)).trans h2⟩
  obtain ⟨c, fr, e⟩ := cells_blk g1 b hb
  exact ⟨c, _, fr, e⟩

theorem OutII.own {E : TypeId} {w A A' : World} {ov : Value} {l : List (List Int)} {bss : List (List Nat)} {row : Option Nat} (h : OutII E w A ov l bss) (hg : A.grownBy A' row) (hr : ∀ r, row = some r → w.heap.size ≤ r ∧ ∃ o : Obj, A.heap[r]? = some o ∧ o.isCells = false) : OutII E w A' ov l bss := by
  have hno : ∀ b, IsCells A b → b ∉ row.toList := by
    rintro b ⟨c, T, fr, e⟩ hb
    obtain ⟨_, o, ho, hc⟩ := hr b (by simpa using hb)
    rw [e] at ho; cases ho; cases hc
  have hbe := h
  obtain ⟨⟨cs, g1, g2⟩, _⟩ := hbe
  refine h.onlyAt (onlyAt_grown row.toList hg (fun k e => by simp [e])) (fun x hx => (hr x (by simpa using hx)).1) (fun b hb => hno b ?_) (fun b hb => hno b (IsCells.els g2 b hb))
  obtain ⟨c, fr, e⟩ := cells_blk g1 b hb
  exact ⟨c, _, fr, e⟩
end Go.Proofs.YtfojllkkbdpfkaaGreat
