/- Merged of I6data, S6f, I6nodup, I6bind. -/
import Derived.Test.YtfojllkkbdpfkaaGreatI6all
import Derived.Test.YtfojllkkbdpfkaaGreatI6srt
import Derived.Test.YtfojllkkbdpfkaaGreatS6all
import Derived.Test.YtfojllkkbdpfkaaGreatI5copy
import Derived.Test.YtfojllkkbdpfkaaGreatBase
/-! I6data -/
namespace Go.Proofs.YtfojllkkbdpfkaaGreat
open Go Go.Sort Go.RowKit
set_option linter.unusedVariables false

/-- The spec's forty numbers and the program's twenty. -/
def Agree (b c : List Int) : Prop := b.length = 40 ∧ b.take 20 = c ∧ ∀ k, k < 20 → (b.getD (20 + k) 0 = 0 ↔ c.getD k 0 = -1)
theorem Agree.at {b c : List Int} (h : Agree b c) {k : Nat} (hk : k < 20) : c.getD k 0 = b.getD k 0 := by
  rw [← h.2.1]; simp [List.getD, hk]
theorem agree_set {b c : List Int} (h : Agree b c) {k : Nat} (hk : k < 20) {v : Int} (hv : 0 ≤ v) : Agree ((b.set k v).set (20 + k) 1) (c.set k v) := by
  obtain ⟨h1, h2, h3⟩ := h
  refine ⟨by simp [h1], ?_, ?_⟩
  · rw [List.take_set, List.take_set, h2]
    rw [List.set_eq_of_length_le]
    rw [List.length_set, ← h2]; simp; omega
  · intro j hj
    have hc : c.length = 20 := by rw [← h2]; simp [h1]
    by_cases e : j = k
    · subst e
      have a1 : ((b.set j v).set (20 + j) 1).getD (20 + j) 0 = 1 := by rw [List.getD_eq_getElem?_getD, List.getElem?_set_self (by simp [h1]; omega)]; rfl
      have a2 : (c.set j v).getD j 0 = v := by rw [List.getD_eq_getElem?_getD, List.getElem?_set_self (by omega)]; rfl
      rw [a1, a2]
      constructor <;> intro hh <;> omega
    · have e2 : ¬ 20 + k = 20 + j := by omega
      have e3 : ¬ k = 20 + j := by omega
      have e4 : ¬ k = j := by omega
      have h4 := h3 j hj
      simp only [List.getD] at h4
      simp [List.getD, e3, e4, h4]
def SameO (x y : Option (List Int)) : Prop := (x = none ∧ y = none) ∨ ∃ b c, x = some b ∧ y = some c ∧ Agree b c
theorem same_step {b c : List Int} (h : Agree b c) {t v : Int} (ht : -80 ≤ t ∧ t < 20) (hv : 0 ≤ v) : SameO (bindStep b t v) (meetStep c t v) := by
  unfold bindStep meetStep
  by_cases h0 : t < 0
  · have e : valD c t = -1 - t := by
      unfold valD
      rw [varB_no (.inl h0)]
      unfold conOf
      rw [conB_yes ht.1 (by omega)]
      rfl
    rw [if_pos h0, e, if_neg (show ¬ (-1 - t = -1) by omega)]
    split
    · exact .inr ⟨_, _, rfl, rfl, h⟩
    · exact .inl ⟨rfl, rfl⟩
  · have hk : t.toNat < 20 := by omega
    have e : valD c t = c.getD t.toNat 0 := by
      unfold valD
      rw [varB_yes (by omega) (by omega)]
      rfl
    rw [if_neg h0, e]
    have h3 := h.2.2 _ hk
    by_cases h4 : c.getD t.toNat 0 = -1
    · rw [if_pos h4, if_pos (h3.2 h4)]
      exact .inr ⟨_, _, rfl, rfl, agree_set h hk hv⟩
    · rw [if_neg h4, if_neg (fun hh => h4 (h3.1 hh)), ← h.at hk]
      split
      · exact .inr ⟨_, _, rfl, rfl, h⟩
      · exact .inl ⟨rfl, rfl⟩
theorem getD_all {p : Int → Prop} {l : List Int} (h : ∀ x ∈ l, p x) (h0 : p 0) (i : Nat) : p (l.getD i 0) := by
  rcases Nat.lt_or_ge i l.length with h1 | h1
  · simp [List.getD, List.getElem?_eq_getElem h1]; exact h _ (List.getElem_mem h1)
  · simp [List.getD, List.getElem?_eq_none h1]; exact h0
theorem same_to {b c args vals : List Int} (h : Agree b c) (ht : ∀ t ∈ args, -80 ≤ t ∧ t < 20) (hv : ∀ v ∈ vals, 0 ≤ v) : ∀ i, SameO (bindTo args vals b i) (meetTo args vals c i)
  | 0 => .inr ⟨_, _, rfl, rfl, h⟩
  | i + 1 => by
    rcases same_to h ht hv i with ⟨h1, h2⟩ | ⟨b', c', h1, h2, h3⟩
    · rw [bindTo_none h1 _ (Nat.le_succ i), meetTo_none h2 _ (Nat.le_succ i)]; exact .inl ⟨rfl, rfl⟩
    · rw [bindTo_next h1, meetTo_next h2]
      exact same_step h3 (getD_all (p := fun t => -80 ≤ t ∧ t < 20) ht (by decide) i) (getD_all (p := fun v => 0 ≤ v) hv (by decide) i)
theorem flat_congr {α β : Type} {f g : α → List β} : ∀ {l : List α}, (∀ x ∈ l, f x = g x) → l.flatMap f = l.flatMap g
  | [], _ => rfl
  | a :: l, h => by rw [List.flatMap_cons, List.flatMap_cons, h a (by simp), flat_congr (fun x hx => h x (by simp [hx]))]
theorem search_eq {db : List AtomD} (hv : ∀ f ∈ db, ∀ v ∈ f.2, 0 ≤ v) : ∀ (al : List AtomD), (∀ x ∈ al, ∀ t ∈ x.2, -80 ≤ t ∧ t < 20) → (∀ x ∈ al, ∀ f ∈ db, x.1 = f.1 → f.2.length = x.2.length) →
    ∀ (b c : List Int), Agree b c → searchN db al b = extD db al c
  | [], _, _, b, c, h => by show [b.take 20] = [c]; rw [h.2.1]
  | a :: rest, ht, hl, b, c, h => by
    rw [searchN_cons, extD_cons]
    refine flat_congr (fun f hf => ?_)
    unfold hitN extF hitD
    by_cases e : a.1 = f.1
    · rw [if_pos ⟨e.symm, hl a (by simp) f hf e⟩, if_pos e]
      unfold bindL meetL
      rcases same_to h (ht a (by simp)) (hv f hf) a.2.length with ⟨h1, h2⟩ | ⟨b', c', h1, h2, h3⟩
      · rw [h1, h2]
      · rw [h1, h2]
        exact search_eq hv rest (fun x hx => ht x (by simp [hx])) (fun x hx => hl x (by simp [hx])) b' c' h3
    · rw [if_neg (fun hh => e hh.1.symm), if_neg e]
theorem agree_empty : Agree emptyB (nob 20) := by
  refine ⟨by simp [emptyB], by simp [emptyB, nob], ?_⟩
  intro k hk
  have : ∀ k : Fin 20, (emptyB.getD (20 + k.1) 0 = 0 ↔ (nob 20).getD k.1 0 = -1) := by decide
  exact this ⟨k, hk⟩
theorem db_vals {s : List Int} {db : List AtomD} (h : isDbB s db = true) : ∀ f ∈ db, ∀ v ∈ f.2, 0 ≤ v := by
  intro f hf v hv
  have h1 := db_fact h f hf
  unfold isFactB at h1
  simp only [Bool.and_eq_true] at h1
  have h2 := List.all_eq_true.1 h1.2 v hv
  unfold valB inB at h2
  exact (of_decide_eq_true h2).1
theorem bind_eq {s : List Int} {d : QueryD} {db : List AtomD} (h1 : fineB s d 4 = true) (h2 : isDbB s db = true) : searchN db d.2 emptyB = bindI s d db := by
  unfold bindI
  rw [if_pos ⟨h1, h2⟩]
  exact search_eq (db_vals h2) d.2 (fine_terms h1) (fine_len2 h1 h2) _ _ agree_empty
theorem bindings_mem (s : List Int) (d : QueryD) (db : List AtomD) (b : List Int) : b ∈ bindingsN s d db ↔ b ∈ bindI s d db := by
  unfold bindingsN
  split
  · rename_i h
    rw [(sortL_once _).2, bind_eq h.1 h.2]
  · rename_i h
    unfold bindI
    rw [if_neg h]
theorem tup_val {b : List Int} {head : List Int} (h : ∀ t ∈ head, -80 ≤ t ∧ t < 20) : tupL head b = head.map (valD b) := by
  unfold tupL
  refine List.map_congr_left (fun t ht => ?_)
  have h1 := h t ht
  unfold tupT valD
  by_cases h0 : t < 0
  · rw [if_pos h0, varB_no (.inl h0)]
    unfold conOf
    rw [conB_yes h1.1 (by omega)]
    rfl
  · rw [if_neg h0, varB_yes (by omega) (by omega)]
    rfl
theorem t3_inj : ∀ {l m : List Int}, l.length = m.length → l.length ≤ 3 → t3 l = t3 m → l = m
  | [], [], _, _, _ => rfl
  | [a], [b], _, _, h => by simpa [t3] using h
  | [a, a'], [b, b'], _, _, h => by simpa [t3] using h
  | [a, a', a''], [b, b', b''], _, _, h => by simpa [t3] using h
  | _ :: _ :: _ :: _ :: _, _, _, h, _ => by simp at h
  | [], _ :: _, h, _, _ => by simp at h
  | [_], [], h, _, _ => by simp at h
  | [_], _ :: _ :: _, h, _, _ => by simp at h
  | [_, _], [], h, _, _ => by simp at h
  | [_, _], [_], h, _, _ => by simp at h
  | [_, _], _ :: _ :: _ :: _, h, _, _ => by simp at h
  | [_, _, _], [], h, _, _ => by simp at h
  | [_, _, _], [_], h, _, _ => by simp at h
  | [_, _, _], [_, _], h, _, _ => by simp at h
  | [_, _, _], _ :: _ :: _ :: _ :: _, h, _, _ => by simp at h
/-- The tuples that are the head under some binding, each once, in order. -/
def answersN (s : List Int) (d : QueryD) (db : List AtomD) : List (List Int) := sortL ((bindingsN s d db).map (tupL d.1)) true
theorem isAns_eq (s : List Int) (d : QueryD) (db : List AtomD) (tup : List Int) : decide (tup ∈ answersN s d db) = isAnsI s d db tup := by
  have hm : tup ∈ answersN s d db ↔ ∃ b ∈ bindI s d db, tupL d.1 b = tup := by
    unfold answersN
    rw [(sortL_once _).2, List.mem_map]
    exact ⟨fun ⟨b, h, e⟩ => ⟨b, (bindings_mem s d db b).1 h, e⟩, fun ⟨b, h, e⟩ => ⟨b, (bindings_mem s d db b).2 h, e⟩⟩
  rw [Bool.eq_iff_iff, decide_eq_true_iff, hm]
  unfold isAnsI
  rw [Bool.and_eq_true, decide_eq_true_iff, List.any_eq_true]
  constructor
  · rintro ⟨b, hb, e⟩
    have hf := (bind_fine (List.length_pos_of_mem hb)).1
    have e2 := tup_val (b := b) (fine_head hf).1
    refine ⟨by rw [← e, tupL, List.length_map], b, hb, ?_⟩
    rw [decide_eq_true_iff, ← e2, e]
  · rintro ⟨hl, b, hb, e⟩
    have hf := (bind_fine (List.length_pos_of_mem hb)).1
    have e2 := tup_val (b := b) (fine_head hf).1
    rw [decide_eq_true_iff] at e
    refine ⟨b, hb, ?_⟩
    rw [e2]
    exact t3_inj (by rw [List.length_map, hl]) (by rw [List.length_map]; exact (fine_head hf).2) e
end Go.Proofs.YtfojllkkbdpfkaaGreat

/-! S6f -/
namespace Go.Proofs.YtfojllkkbdpfkaaGreat
open Go Go.Sort Go.RowKit
set_option linter.unusedVariables false

theorem searchN_row20 (db : List AtomD) (al : List AtomD) (b : List Int) (h : b.length = 40) : ∀ x ∈ searchN db al b, x.length = 20 := by
  induction al generalizing b with
  | nil => intro x hx; simp [searchN] at hx; subst hx; rw [List.length_take, h]; rfl
  | cons a al ih =>
    intro x hx
    rw [searchN_cons] at hx
    obtain ⟨f, _, hf⟩ := List.mem_flatMap.1 hx
    unfold hitN at hf
    split at hf
    · split at hf
      · rename_i b' hb'
        exact ih b' (by rw [bindL_len hb', h]) x hf
      · cases hf
    · cases hf
theorem bindings_row {s : List Int} {d : QueryD} {db : List AtomD} : ∀ b ∈ bindingsN s d db, ∀ t ∈ d.1, t < b.length := by
  intro b hb t ht
  unfold bindingsN at hb
  split at hb
  · rename_i h
    rw [searchN_row20 _ _ _ (by simp [emptyB]) b (sortL_mem b hb)]
    exact ((fine_head h.1).1 t ht).2
  · cases hb
theorem bindings_len (s : List Int) (d : QueryD) (db : List AtomD) : (bindingsN s d db).length ≤ 331776 := by
  unfold bindingsN
  split
  · rename_i h
    rw [← sortTo_all]
    exact Nat.le_trans (sortTo_len _ _ _) (searchN_most _ h.1 h.2)
  · simp

set_option maxRecDepth 100000 in
set_option maxHeartbeats 8000000 in
theorem sAnswers_any (w : World) (vs vq vdb : Value) (s : List Int) (d : QueryD) (db : List AtomD) (hs : RdSchema w vs s) (hq : RdQuery w vq d) (hdb : RdAtomS w vdb db) (hsz : sizeAtomS d.2 ≤ 1048576) (hsz1 : d.1.length ≤ 1048576) :
    Calls Tryz.prog 26 #[vs, vq, vdb] w (GaveO (fun w' v' bs => ROIntSS w' v' (answersN s d db) bs) w) := by
  obtain ⟨a0, n0, c0, a1, n1, c1, e, _⟩ := id hq
  subst e
  obtain ⟨sa, sn, sc, e, _⟩ := id hs
  subst e
  have HB := Lib.hid (fun w' (hb : Below w.heap.size w w') => sBindings_any w' _ _ _ s d db (hs.below hb) (hq.below hb) (hdb.below hb) hsz)
  have HH := Lib.hid (fun w' vb (hb : Below w.heap.size w w') hr => sHeads6_any w' _ vb d (bindingsN s d db) (hq.below hb) hr hsz1 (Nat.le_trans (bindings_len s d db) (by decide)) bindings_row)
  have HS := Lib.hid (fun w' v hr => sSort6_any w' v ((bindingsN s d db).map (tupL d.1)) true hr (fun x hx => by
    obtain ⟨b, _, rfl⟩ := List.mem_map.1 hx
    rw [tupL, List.length_map]; exact hsz1) (by rw [List.length_map]; exact Nat.le_trans (bindings_len s d db) (by decide)))
  clear hs hq hdb hsz hsz1
  go_enter Tryz.func26, Tryz.ntmps26
  go_wp2_with fail
  have hb2 : Below w.heap.size w ((w.alloc (.cells #[.slice sa sn sc] 34)).alloc (.cells #[.slice a0 n0 c0, .slice a1 n1 c1] 38)) := ((Below.refl _ _).alloc (Nat.le_refl _) _).alloc (by simp) _
  have k0 : ((w.alloc (.cells #[.slice sa sn sc] 34)).alloc (.cells #[.slice a0 n0 c0, .slice a1 n1 c1] 38)).cell? ⟨w.heap.size, 0, none⟩ = some (.slice sa sn sc) := by simp
  have k1 : ((w.alloc (.cells #[.slice sa sn sc] 34)).alloc (.cells #[.slice a0 n0 c0, .slice a1 n1 c1] 38)).cell? ⟨w.heap.size + 1, 0, none⟩ = some (.slice a0 n0 c0) := by simp
  have k2 : ((w.alloc (.cells #[.slice sa sn sc] 34)).alloc (.cells #[.slice a0 n0 c0, .slice a1 n1 c1] 38)).cell? ⟨w.heap.size + 1, 1, none⟩ = some (.slice a1 n1 c1) := by simp
  generalize (w.alloc (.cells #[.slice sa sn sc] 34)).alloc (.cells #[.slice a0 n0 c0, .slice a1 n1 c1] 38) = w2 at *
  have HB2 := Lib.hid hb2
  clear hb2
  go_region_law (first
    | (go_simp; go_at_call 12; refine (HB.out _ (HB2.out.trans ((Below.refl _ _).drew.mono HB2.out.size))).mono ?_; rintro e3 w3 ⟨v3, bs3, rfl, ho3, hf3, hb3⟩; have HB3 := Lib.hid (bnext (Below.refl w2.heap.size w2).drew hb3); have HO3 := Lib.hid ho3; have HW3 := Lib.hid (bnext HB2.out HB3.out); have k13 := cellk HB3.out k1; have k23 := cellk HB3.out k2; have k03 := cellk HB3.out k0; clear ho3 hf3 hb3)
    | (go_simp; go_at_call 74; refine (HH.out _ v3 HW3.out HO3.out.rd).mono ?_; rintro e4 w4 ⟨v4, bs4, rfl, ho4, hf4, hb4⟩; have HO4 := Lib.hid ho4; have HW4 := Lib.hid (bnext HW3.out hb4); clear ho4 hf4 hb4)
    | (go_simp; go_at_call 73; refine (HS.out _ v4 HO4.out.rd).mono ?_; rintro e5 w5 ⟨v5, bs5, rfl, ho5, hf5, hb5⟩; have HO5 := Lib.hid ho5; have HF5 := Lib.hid (hf5.wide HW4.out.size (Nat.le_refl _) : Fresh w w5 bs5); have HW5 := Lib.hid (bnext HW4.out hb5); clear ho5 hf5 hb5))
  all_goals (go_wp2_with fail)
  all_goals go_ret
  all_goals exact ⟨_, bs5, rfl, HO5.out, HF5.out, HW5.out⟩

set_option maxRecDepth 100000 in
set_option maxHeartbeats 8000000 in
theorem sIsAnswer_any (w : World) (vs vq vdb vt : Value) (s : List Int) (d : QueryD) (db : List AtomD) (tup : List Int) (hs : RdSchema w vs s) (hq : RdQuery w vq d) (hdb : RdAtomS w vdb db) (ht : Ints w vt tup) (hsz : sizeAtomS d.2 ≤ 1048576) (hsz1 : d.1.length ≤ 1048576) :
    Calls Tryz.prog 47 #[vs, vq, vdb, vt] w (GaveBool w (decide (tup ∈ answersN s d db))) := by
  obtain ⟨a0, n0, c0, a1, n1, c1, e, _⟩ := id hq
  subst e
  obtain ⟨sa, sn, sc, e, _⟩ := id hs
  subst e
  have HA := Lib.hid (fun w' (hb : Below w.heap.size w w') => sAnswers_any w' _ _ _ s d db (hs.below hb) (hq.below hb) (hdb.below hb) hsz hsz1)
  have HH := Lib.hid (fun w' v (hb : Below w.heap.size w w') hr => sHas6_any w' v _ (answersN s d db) tup hr (ht.below hb))
  obtain ⟨ta, tc, rfl⟩ := ht.form
  clear hs hq hdb ht hsz hsz1
  go_enter Tryz.func47, Tryz.ntmps47
  go_wp2_with fail
  have hb2 : Below w.heap.size w ((w.alloc (.cells #[.slice sa sn sc] 34)).alloc (.cells #[.slice a0 n0 c0, .slice a1 n1 c1] 38)) := ((Below.refl _ _).alloc (Nat.le_refl _) _).alloc (by simp) _
  have k0 : ((w.alloc (.cells #[.slice sa sn sc] 34)).alloc (.cells #[.slice a0 n0 c0, .slice a1 n1 c1] 38)).cell? ⟨w.heap.size, 0, none⟩ = some (.slice sa sn sc) := by simp
  have k1 : ((w.alloc (.cells #[.slice sa sn sc] 34)).alloc (.cells #[.slice a0 n0 c0, .slice a1 n1 c1] 38)).cell? ⟨w.heap.size + 1, 0, none⟩ = some (.slice a0 n0 c0) := by simp
  have k2 : ((w.alloc (.cells #[.slice sa sn sc] 34)).alloc (.cells #[.slice a0 n0 c0, .slice a1 n1 c1] 38)).cell? ⟨w.heap.size + 1, 1, none⟩ = some (.slice a1 n1 c1) := by simp
  generalize (w.alloc (.cells #[.slice sa sn sc] 34)).alloc (.cells #[.slice a0 n0 c0, .slice a1 n1 c1] 38) = w2 at *
  have HB2 := Lib.hid hb2
  clear hb2
  refine (HA.out _ HB2.out).mono ?_
  rintro e3 w3 ⟨v3, bs3, rfl, ho3, hf3, hb3⟩
  have HO3 := Lib.hid ho3
  have HW3 := Lib.hid (bnext HB2.out hb3)
  have k03 := cellk hb3 k0
  have k13 := cellk hb3 k1
  have k23 := cellk hb3 k2
  clear ho3 hf3 hb3
  go_wp2_with fail
  refine (HH.out _ v3 HW3.out HO3.out.rd).mono ?_
  rintro e4 w4 ⟨rfl, hb4⟩
  have HW4 := Lib.hid (bnext HW3.out hb4)
  clear hb4
  go_wp2_with fail
  go_ret
  exact ⟨rfl, HW4.out⟩
end Go.Proofs.YtfojllkkbdpfkaaGreat

/-! I6nodup -/
namespace Go.Proofs.YtfojllkkbdpfkaaGreat
open Go Go.Sort Go.RowKit
set_option linter.unusedVariables false

/-- What is bound in b is bound to the same in c. -/
def ExtB (b c : List Int) : Prop := ∀ k, k < 20 → b.getD k 0 ≠ -1 → c.getD k 0 = b.getD k 0
theorem ExtB.refl (b : List Int) : ExtB b b := fun _ _ _ => rfl
theorem ExtB.trans {a b c : List Int} (h : ExtB a b) (k : ExtB b c) : ExtB a c := fun i hi hn => by
  have h1 := h i hi hn
  rw [k i hi (by rw [h1]; exact hn), h1]
theorem ExtB.val {b c : List Int} (h : ExtB b c) {t : Int} (hn : valD b t ≠ -1) : valD c t = valD b t := by
  unfold valD at hn ⊢
  cases hv : varB t with
  | false => rfl
  | true =>
    rw [hv] at hn
    have : 0 ≤ t ∧ t ≤ 19 := of_decide_eq_true hv
    exact h t.toNat (by omega) hn
theorem step_ext {b b' : List Int} {t v : Int} (hb : b.length = 20) (ht : -80 ≤ t ∧ t < 20) (hv : 0 ≤ v) (h : meetStep b t v = some b') : ExtB b b' ∧ valD b' t = v ∧ b'.length = 20 := by
  unfold meetStep at h
  split at h
  · rename_i h1
    cases h
    have h0 := valD_unbound ht h1
    have hk : t.toNat < 20 := by omega
    have e : ((t.toNat : Nat) : Int) = t := Int.toNat_of_nonneg h0
    have hu : b.getD t.toNat 0 = -1 := by
      unfold valD at h1
      rw [varB_yes h0 (by omega)] at h1
      exact h1
    refine ⟨fun k hk' hn => ?_, by have := valD_set hk hb v; rwa [e] at this, by rw [List.length_set, hb]⟩
    by_cases e2 : t.toNat = k
    · subst e2; exact absurd hu hn
    · simp [List.getD, e2]
  · split at h
    · rename_i h2
      cases h
      exact ⟨ExtB.refl _, h2, hb⟩
    · cases h
theorem to_ext {args vals b : List Int} (hb : b.length = 20) (ht : ∀ t ∈ args, -80 ≤ t ∧ t < 20) (hv : ∀ v ∈ vals, 0 ≤ v) : ∀ (i : Nat) (b' : List Int), meetTo args vals b i = some b' → ExtB b b' ∧ (∀ j, j < i → valD b' (args.getD j 0) = vals.getD j 0) ∧ b'.length = 20
  | 0, b', h => by cases h; exact ⟨ExtB.refl _, fun j hj => by omega, hb⟩
  | i + 1, b', h => by
    cases hq : meetTo args vals b i with
    | none => rw [meetTo_none hq (i + 1) (by omega)] at h; cases h
    | some q =>
      rw [meetTo_next hq] at h
      obtain ⟨h1, h2, h3⟩ := to_ext hb ht hv i q hq
      obtain ⟨g1, g2, g3⟩ := step_ext h3 (getD_all (p := fun t => -80 ≤ t ∧ t < 20) ht (by decide) i) (getD_all (p := fun v => 0 ≤ v) hv (by decide) i) h
      refine ⟨h1.trans g1, fun j hj => ?_, g3⟩
      by_cases e : j = i
      · subst e; exact g2
      · have h4 := h2 j (by omega)
        have h5 : 0 ≤ vals.getD j 0 := getD_all (p := fun v => 0 ≤ v) hv (by decide) j
        rw [g1.val (by rw [h4]; omega), h4]
theorem ext_ext {db : List AtomD} (hv : ∀ f ∈ db, ∀ v ∈ f.2, 0 ≤ v) : ∀ (al : List AtomD), (∀ x ∈ al, ∀ t ∈ x.2, -80 ≤ t ∧ t < 20) → ∀ (b : List Int), b.length = 20 → ∀ c ∈ extD db al b, ExtB b c
  | [], _, b, hb, c, hc => by
    have : c = b := by simpa [extD] using hc
    rw [this]; exact ExtB.refl _
  | a :: rest, ht, b, hb, c, hc => by
    rw [extD_cons] at hc
    obtain ⟨f, hf, hc2⟩ := List.mem_flatMap.1 hc
    unfold extF hitD at hc2
    split at hc2
    · rename_i b' h1
      split at h1
      · obtain ⟨g1, _, g3⟩ := to_ext hb (ht a (by simp)) (hv f hf) _ _ h1
        exact g1.trans (ext_ext hv rest (fun x hx => ht x (by simp [hx])) b' g3 c hc2)
      · cases h1
    · cases hc2
theorem list_eq {l m : List Int} (hl : l.length = m.length) (h : ∀ j, j < l.length → l.getD j 0 = m.getD j 0) : l = m := by
  refine List.ext_getElem hl (fun i h1 h2 => ?_)
  have := h i h1
  simpa [List.getD, List.getElem?_eq_getElem h1, List.getElem?_eq_getElem h2] using this
theorem hit_fact {db : List AtomD} {a : AtomD} {rest : List AtomD} {b c : List Int} {f : AtomD} (hb : b.length = 20) (hv : ∀ f ∈ db, ∀ v ∈ f.2, 0 ≤ v) (ht : ∀ x ∈ a :: rest, ∀ t ∈ x.2, -80 ≤ t ∧ t < 20) (hf : f ∈ db) (hc : c ∈ extF db a rest b f) : a.1 = f.1 ∧ ∀ j, j < a.2.length → valD c (a.2.getD j 0) = f.2.getD j 0 := by
  unfold extF hitD at hc
  split at hc
  · rename_i b' h1
    split at h1
    · rename_i he
      obtain ⟨_, g2, g3⟩ := to_ext hb (ht a (by simp)) (hv f hf) _ _ h1
      have hx := ext_ext hv rest (fun x hx => ht x (by simp [hx])) b' g3 c hc
      refine ⟨he, fun j hj => ?_⟩
      have h4 := g2 j hj
      have h5 : 0 ≤ f.2.getD j 0 := getD_all (p := fun v => 0 ≤ v) (hv f hf) (by decide) j
      rw [hx.val (by rw [h4]; omega), h4]
    · cases h1
  · cases hc
theorem ext_nodup {db : List AtomD} (hn : db.Nodup) (hv : ∀ f ∈ db, ∀ v ∈ f.2, 0 ≤ v) : ∀ (al : List AtomD), (∀ x ∈ al, ∀ t ∈ x.2, -80 ≤ t ∧ t < 20) → (∀ x ∈ al, ∀ f ∈ db, x.1 = f.1 → f.2.length = x.2.length) → ∀ (b : List Int), b.length = 20 → (extD db al b).Nodup
  | [], _, _, b, hb => by simp [extD]
  | a :: rest, ht, hl, b, hb => by
    rw [extD_cons, List.Nodup, List.pairwise_flatMap]
    refine ⟨fun f hf => ?_, ?_⟩
    · unfold extF hitD
      split
      · rename_i b' h1
        split at h1
        · obtain ⟨_, _, g3⟩ := to_ext hb (ht a (by simp)) (hv f hf) _ _ h1
          exact ext_nodup hn hv rest (fun x hx => ht x (by simp [hx])) (fun x hx => hl x (by simp [hx])) b' g3
        · cases h1
      · exact List.Pairwise.nil
    · refine List.Pairwise.imp_of_mem ?_ hn
      intro f f' hf hf' hne c hc c' hc' e
      subst e
      obtain ⟨h1, h2⟩ := hit_fact hb hv ht hf hc
      obtain ⟨h3, h4⟩ := hit_fact hb hv ht hf' hc'
      refine hne (Prod.ext (h1.symm.trans h3) (list_eq ?_ (fun j hj => ?_)))
      · rw [hl a (by simp) f hf h1, hl a (by simp) f' hf' h3]
      · rw [hl a (by simp) f hf h1] at hj
        rw [← h2 j hj, h4 j hj]
theorem pw6_of_asc {l : List AtomD} (h : Asc l) : l.Pairwise (fun a b => lessF a b = true) := by
  rw [List.pairwise_iff_getElem]
  intro i j hi hj hij
  have := h i j hij hj
  rw [getD_some (List.getElem?_eq_getElem hi), getD_some (List.getElem?_eq_getElem hj)] at this
  exact this
theorem db_nodup {s : List Int} {db : List AtomD} (h : isDbB s db = true) : db.Nodup :=
  (pw6_of_asc (asc_of_db h)).imp (fun h e => by rw [e, lessF_irr] at h; cases h)
theorem bind_len (s : List Int) (d : QueryD) (db : List AtomD) : (bindI s d db).length ≤ 331776 := by
  by_cases h : fineB s d 4 = true ∧ isDbB s db = true
  · rw [← bind_eq h.1 h.2]; exact searchN_most _ h.1 h.2
  · unfold bindI; rw [if_neg h]; simp
theorem bind_nodup (s : List Int) (d : QueryD) (db : List AtomD) : (bindI s d db).Nodup := by
  by_cases h : fineB s d 4 = true ∧ isDbB s db = true
  · unfold bindI
    rw [if_pos h]
    exact ext_nodup (db_nodup h.2) (db_vals h.2) d.2 (fine_terms h.1) (fine_len2 h.1 h.2) _ (by simp [nob])
  · unfold bindI; rw [if_neg h]; exact List.Pairwise.nil
theorem bind_sorted (s : List Int) (d : QueryD) (db : List AtomD) : ∀ l, AscL l → l.Perm (bindI s d db) → l = bindingsN s d db := by
  intro l ha hp
  by_cases h : fineB s d 4 = true ∧ isDbB s db = true
  · unfold bindingsN
    rw [if_pos h, bind_eq h.1 h.2]
    exact sortL_eq (ha.strict (hp.nodup_iff.2 (bind_nodup s d db))) (fun y => hp.mem_iff)
  · unfold bindI at hp
    rw [if_neg h] at hp
    unfold bindingsN
    rw [if_neg h]
    exact hp.eq_nil
theorem sumL_most {n : Nat} : ∀ {l : List (List Int)}, (∀ x ∈ l, x.length ≤ n) → sumL l ≤ l.length * n
  | [], _ => by simp [sumL]
  | a :: l, h => by
    have h1 := sumL_most (l := l) (fun x hx => h x (by simp [hx]))
    have h2 := h a (by simp)
    unfold sumL at h1 ⊢
    rw [List.map_cons, List.sum_cons, List.length_cons, Nat.succ_mul]
    omega
theorem bindings_20 (s : List Int) (d : QueryD) (db : List AtomD) : ∀ x ∈ bindingsN s d db, x.length ≤ 20 := by
  intro b hb
  unfold bindingsN at hb
  split at hb
  · exact searchN_row _ _ _ b (sortL_mem b hb)
  · cases hb
theorem bindings_m (s : List Int) (d : QueryD) (db : List AtomD) : mIntSS (bindingsN s d db) ≤ 16777216 ∧ ∀ x ∈ bindingsN s d db, x.length ≤ 1048576 := by
  refine ⟨?_, fun x hx => Nat.le_trans (bindings_20 s d db x hx) (by decide)⟩
  unfold mIntSS
  have h1 := sumL_most (bindings_20 s d db)
  have h2 := bindings_len s d db
  omega
end Go.Proofs.YtfojllkkbdpfkaaGreat

/-! I6bind -/
namespace Go.Proofs.YtfojllkkbdpfkaaGreat
open Go Go.Sort Go.RowKit Go.Shelf
set_option linter.unusedVariables false
attribute [local go_sem] Oper.semAt_some

def IsCells (W : World) (b : Nat) : Prop := ∃ c T fr, W.heap[b]? = some (.cells c T fr)
theorem IsCells.of_cell {W : World} {a : Addr} {v : Value} (h : W.cell? a = some v) : IsCells W a.block := by
  unfold World.cell? at h
  split at h
  · rename_i c T fr e; exact ⟨c, T, fr, e⟩
  · cases h
theorem cells_blk' {E : TypeId} {w0 W : World} {v : Value} {n : Nat} {cs : List Value} (h : BuiltC E 1 w0 W v n cs) : ∀ b ∈ blk v, w0.heap.size ≤ b ∧ ∃ c fr, W.heap[b]? = some (.cells c E fr) := by
  intro b hb
  rcases h.1.2 with ⟨rfl, _⟩ | ⟨g, cap, cur, rfl, h5, hg, _⟩
  · cases hb
  · simp [blk] at hb
    subst hb
    exact ⟨h5, _, _, hg⟩
theorem cells_blk {E : TypeId} {w0 W : World} {v : Value} {n : Nat} {cs : List Value} (h : BuiltC E 1 w0 W v n cs) : ∀ b ∈ blk v, ∃ c fr, W.heap[b]? = some (.cells c E fr) := by
  intro b hb
  rcases h.1.2 with ⟨rfl, _⟩ | ⟨g, cap, cur, rfl, _, hg, _⟩
  · cases hb
  · simp [blk] at hb
    subst hb
    exact ⟨_, _, hg⟩
theorem IsCells.els {W : World} {cs : List Value} {l : List (List Int)} {bss : List (List Nat)} (h : ElsI W cs l bss) : ∀ b ∈ bss.flatten, IsCells W b := by
  intro b hb
  obtain ⟨bs, hbs, hb2⟩ := List.mem_flatten.1 hb
  obtain ⟨j, hj⟩ := List.mem_iff_getElem?.1 hbs
  have hjl : j < l.length := by rw [← h.1]; exact (List.getElem?_eq_some_iff.1 hj).1
  obtain ⟨a, n, c, e1, e2⟩ := h.2 j l[j] (List.getElem?_eq_getElem hjl)
  have e3 : bss.getD j [] = bs := by simp [List.getD, hj]
  rw [e3] at e2
  rcases e2.2 with ⟨_, _, _, e⟩ | ⟨b', off, n', c', e, hn, rfl, hf⟩
  · rw [e] at hb2; cases hb2
  · cases e
    obtain rfl : b = b' := by simpa using hb2
    rcases e2.1.2 with ⟨a, c, e, hc, _⟩ | ⟨b2, off2, len, c2, e, hl, h1, h2, hlt, hc⟩
    · cases e; omega
    · cases e
      have := hc 0 (by omega)
      exact IsCells.of_cell this
/-- The rows that are found so far, in the variable's box B. -/
def BInv (w W : World) (B : Nat) (l : List (List Int)) : Prop := ∃ ov bss, PInv 22 w W B ov l bss ∧ W.heap[B]? = some (.cells #[ov] 32 (0, 0))
theorem BInv.grow {w W W' : World} {B : Nat} {l : List (List Int)} (h : BInv w W B l) (hb : Below W.heap.size W W') : BInv w W' B l := by
  obtain ⟨ov, bss, h1, h2⟩ := h
  exact ⟨ov, bss, h1.grow hb, (hb.block _ (Array.getElem?_eq_some_iff.1 h2).1).trans h2⟩
theorem PInv.onlyAt {E : TypeId} {w W W' : World} {B : Nat} {ov : Value} {l : List (List Int)} {bss : List (List Nat)} {bs' : List Nat} (h : PInv E w W B ov l bss) (ko : OnlyAt bs' W W') (hW : ∀ x ∈ bs', w.heap.size ≤ x) (hv : ∀ b ∈ blk ov, b ∉ bs') (hn : ∀ b ∈ bss.flatten, b ∉ bs') (hB : B ∉ bs') : PInv E w W' B ov l bss := by
  obtain ⟨p1, p2, p3, p4, p5, p6, p7⟩ := h
  exact ⟨p1.onlyAt ko hW hv hn, ko.cell hB p2, ko.frozen p5 hB p3, p4, Nat.lt_of_lt_of_le p5 ko.size, p6, p7⟩
theorem BInv.own {w : World} {B B' : Nat} {β : Type} (f : β → List (List Int)) (hw : w.heap.size ≤ B') : OwnFrom B' (fun (s : β) W => BInv w W B (f s)) := by
  intro s A A' row ⟨ov, bss, h1, h2⟩ hg hr
  have ko : OnlyAt row.toList A A' := onlyAt_grown _ hg (fun k e => by simp [e])
  have hno : ∀ b, IsCells A b → b ∉ row.toList := by
    rintro b ⟨c, T, fr, e⟩ hb
    obtain ⟨_, o, ho, hc⟩ := hr b (by simpa using hb)
    rw [e] at ho; cases ho; cases hc
  have hbe := h1.1
  obtain ⟨⟨cs, g1, g2⟩, _⟩ := hbe
  refine ⟨ov, bss, h1.onlyAt ko (fun x hx => Nat.le_trans hw (hr x (by simpa using hx)).1) (fun b hb => hno b ?_) (fun b hb => hno b (IsCells.els g2 b hb)) (hno B ⟨_, _, _, h2⟩), (ko.block _ (Array.getElem?_eq_some_iff.1 h2).1 (hno B ⟨_, _, _, h2⟩)).trans h2⟩
  obtain ⟨c, fr, e⟩ := cells_blk g1 b hb
  exact ⟨c, _, fr, e⟩

theorem inR {ops : Array Oper} {o : Oper} {l n : Nat} {P : Program} {a : Act} {w : World} {K : Act → World → Prop} {Q : Exit → Act → World → Prop} {F : Prop} (hgd : o.guard = none) (hnd : noDefer o = true) (h : if Region.wanted o (yielded ops a.tmps) = true then Oper.wp P o a w K Q else True) :
    if Region.wanted o (yielded ops a.tmps) = true then Oper.wpIn (Fence.wide.inRound l) n P o a w K Q else F := by
  have hw : Region.wanted o (yielded ops a.tmps) = true := by simp [Region.wanted, hgd]
  rw [if_pos hw] at h ⊢
  exact wpIn_of_wp (fun c e => by unfold noDefer at hnd; rw [e] at hnd; cases hnd) h
theorem keeps_rows {w W w8 : World} {B : Nat} {ov : Value} {n : Nat} {cs : List Value} (N : Nat) (g1 : BuiltC 22 1 w W ov n cs) (hBh : W.heap[B]? = some (.cells #[ov] 32 (0, 0))) (hB : w.heap.size ≤ B) (ko : OnlyAt (B :: blk ov) W w8) :
    KeepsFrom N W w8 ∧ KpB w.heap.size W w8 := by
  have hm : ∀ k ∈ B :: blk ov, w.heap.size ≤ k ∧ ∃ c T fr, W.heap[k]? = some (.cells c T fr) ∧ T ≠ 89 := by
    intro k hk
    rcases List.mem_cons.1 hk with rfl | h
    · exact ⟨hB, _, _, _, hBh, by decide⟩
    · obtain ⟨h1, c, fr, h2⟩ := cells_blk' g1 k h
      exact ⟨h1, c, _, fr, h2, by decide⟩
  have hsw := g1.2.size
  refine ⟨⟨ko.size, fun k o _ hk ho => (ko.block k (Array.getElem?_eq_some_iff.1 hk).1 (fun h => ?_)).trans hk⟩, ⟨ko.os, ko.tape, ko.output, ko.size, fun k hk => ko.block k (by omega) (fun h => by have := (hm k h).1; omega)⟩, fun k c fr hk => (ko.block k (Array.getElem?_eq_some_iff.1 hk).1 (fun h => ?_)).trans hk⟩
  · obtain ⟨_, c, T, fr, e, _⟩ := hm k h
    rw [hk] at e; cases e; cases ho
  · obtain ⟨_, c', T, fr', e, ht⟩ := hm k h
    rw [hk] at e; cases e; exact ht rfl
theorem own_size {β : Type} (B N : Nat) : OwnFrom B (fun (_ : β) W => N ≤ W.heap.size) := fun s A B' row hs hg hr => Nat.le_trans hs hg.size
theorem OutII.own {E : TypeId} {w A A' : World} {ov : Value} {l : List (List Int)} {bss : List (List Nat)} {row : Option Nat} (h : OutII E w A ov l bss) (hg : A.grownBy A' row) (hr : ∀ r, row = some r → w.heap.size ≤ r ∧ ∃ o : Obj, A.heap[r]? = some o ∧ o.isCells = false) : OutII E w A' ov l bss := by
  have hno : ∀ b, IsCells A b → b ∉ row.toList := by
    rintro b ⟨c, T, fr, e⟩ hb
    obtain ⟨_, o, ho, hc⟩ := hr b (by simpa using hb)
    rw [e] at ho; cases ho; cases hc
  have hbe := h
  obtain ⟨⟨cs, g1, g2⟩, _⟩ := hbe
  refine h.onlyAt (onlyAt_grown row.toList hg (fun k e => by simp [e])) (fun x hx => (hr x (by simpa using hx)).1) (fun b hb => hno b ?_) (fun b hb => hno b (IsCells.els g2 b hb))
  obtain ⟨c, fr, e⟩ := cells_blk g1 b hb
  exact ⟨c, _, fr, e⟩
theorem iSortII_any (w W : World) (ov : Value) (l : List (List Int)) (bss : List (List Nat)) (h : OutII 22 w W ov l bss) (hsz : l.length ≤ 331776) :
    Calls Tryz.prog 68 #[ov, .func (.func 69) #[] #[]] W (fun e w' => e = .returned (.tuple #[]) ∧ ∃ l' bss', OutII 22 w w' ov l' bss' ∧ l'.Perm l ∧ AscL l' ∧ OnlyAt (blk ov) W w') := by
  have h0 := h
  obtain ⟨⟨cs, h1, h2⟩, h3, h4⟩ := h
  rcases h1.form with ⟨rfl, hn⟩ | ⟨g, cap, rfl, _⟩
  · have hl : l = [] := List.eq_nil_of_length_eq_zero hn
    subst hl
    have hS := AnyF.slices_SortFunc_none (P := Tryz.prog) (ρ := Tryz.laysSlF6_f68_ren) { Tryz.laysSlF6_f68 with } none 0 (.func (.func 69) #[] #[]) W
    change Calls Tryz.prog 68 _ _ _ at hS
    refine hS.mono fun e w' ⟨he, hw⟩ => ?_
    subst hw
    exact ⟨he, [], bss, h0, List.Perm.refl _, List.Pairwise.nil, OnlyAt.refl _ _⟩
  · have hg : ∀ b ∈ bss.flatten, g ≠ b := fun b hb => (List.nodup_append.1 h3).2.2 g (by simp [blk]) b hb
    have hS := iSort6_gen (β := List Int × List Nat) (fun b => b.1) (fun v b => (∃ a n c, v = Value.slice a n c) ∧ OInts W v b.1 b.2 ∧ g ∉ b.2) 22 w W g l.length cap cs (l.zip bss) h1 (by simp [h2.1]) (fun j b hb => by
      obtain ⟨hb1, hb2⟩ := List.getElem?_zip_eq_some.1 hb
      obtain ⟨a, n, c, e1, e2⟩ := h2.2 j b.1 hb1
      have e3 : bss.getD j [] = b.2 := by simp [List.getD, hb2]
      rw [e3] at e2
      exact ⟨_, e1, ⟨a, n, c, rfl⟩, e2, fun hm => hg g (List.mem_flatten.2 ⟨b.2, List.mem_of_getElem? hb2, hm⟩) rfl⟩)
      (fun v b hc => by obtain ⟨⟨a, n, c, rfl⟩, _⟩ := hc; rfl)
      (fun v b hc W' ko => (hc.2.1.onlyAt ko (fun x hx hm => hc.2.2 (by simp at hm; subst hm; exact hx))).1) (by omega)
    refine hS.mono fun e w' ⟨he, cs', bl', hB', hperm, hasc, hel', ko⟩ => ?_
    have hl1 : (l.zip bss).map Prod.fst = l := List.map_fst_zip (by rw [h2.1]; exact Nat.le_refl _)
    have hl2 : (l.zip bss).map Prod.snd = bss := List.map_snd_zip (by rw [h2.1]; exact Nat.le_refl _)
    have hp1 : (bl'.map Prod.fst).Perm l := by rw [← hl1]; exact hperm.map _
    have hp2 : (bl'.map Prod.snd).flatten.Perm bss.flatten := by
      have := (hperm.map Prod.snd).flatten
      rwa [hl2] at this
    refine ⟨he, bl'.map Prod.fst, bl'.map Prod.snd, ⟨⟨cs', by rw [hp1.length_eq]; exact hB', ⟨by simp, fun j d hd => ?_⟩⟩, ?_, fun b hb => ⟨(h4 b (hp2.mem_iff.1 hb)).1, Nat.lt_of_lt_of_le (h4 b (hp2.mem_iff.1 hb)).2 ko.size⟩⟩, hp1, hasc, ko⟩
    · rw [List.getElem?_map, Option.map_eq_some_iff] at hd
      obtain ⟨b, hb, rfl⟩ := hd
      obtain ⟨v, e1, ⟨a, n, c, rfl⟩, e2, e3⟩ := hel' j b hb
      have e4 : (bl'.map Prod.snd).getD j [] = b.2 := by simp [List.getD, hb]
      rw [e4]
      exact ⟨a, n, c, e1, e2.onlyAt ko (fun x hx hm => e3 (by simp at hm; subst hm; exact hx))⟩
    · exact ((List.Perm.append_left _ hp2).nodup_iff).2 h3

set_option maxRecDepth 100000 in
set_option maxHeartbeats 8000000 in
theorem iBindings_any (w : World) (vs vq vdb : Value) (s : List Int) (d : QueryD) (db : List AtomD) (hs : RdSchema w vs s) (hq : RdQuery w vq d) (hdb : RdAtomS w vdb db) (hz1 : sizeAtomS d.2 ≤ 1048576) (hz2 : sizeAtomS db ≤ 1048576) (hsort : ∀ l, AscL l → l.Perm (bindI s d db) → l = bindingsN s d db) (hlen : (bindI s d db).length ≤ 331776) :
    Calls Tryz.prog 16 #[vs, vq, vdb] w (GaveO (fun w' v' bs => ROIntSS w' v' (bindingsN s d db) bs) w) := by
  have HST := Lib.hid (fun W hbW B1 B2 B3 g1 g2 g3 n => eachStops w W vs vq vdb s d db hs hq hdb hz1 hz2 hbW B1 B2 B3 g1 g2 g3 n)
  have HCL := Lib.hid (fun W v l h h2 => iClone_any W v l h h2)
  obtain ⟨sa, sn, sc, rfl, hs⟩ := hs
  obtain ⟨a1, n1, c1, a2, n2, c2, rfl, hq1, hq2⟩ := hq
  obtain ⟨da, dn, dc, rfl, hd5⟩ := hdb
  have HE := Lib.hid (fun W => iEach_any W sa sn sc a1 n1 c1 a2 n2 c2 da dn dc)
  have HSO := Lib.hid hsort
  have HLE := Lib.hid hlen
  clear hs hq1 hq2 hd5 hz1 hz2 hsort hlen
  refine (callsIn_wide (n := 6)).1 ?_
  refine callsIn_of_wp_marks Tryz.func16 rfl trivial ?_ rfl
  simp only [Tryz.ntmps16, List.size_toArray, List.length_cons, List.length_nil, Nat.reduceAdd, Nat.reduceSub, Array.replicate_succ, Array.replicate_zero, List.push_toArray, List.append_toArray, List.nil_append, List.cons_append]
  gi_wp2_with (fail)
  refine ⟨trivial, ?_⟩
  refine (callsIn_wide.2 (HE.out _)).mono ?_
  rintro e w4 ⟨rfl, hw4⟩
  gi_wp2_with (fail)
  rw [← hw4]
  have hb3 : Below w.heap.size w (((w.alloc (.cells #[.slice sa sn sc] 34)).alloc (.cells #[.slice a1 n1 c1, .slice a2 n2 c2] 38)).alloc (.cells #[.slice none 0 0] 32)) := ((below_alloc w _).trans ((below_alloc _ _).mono (by simp))).trans ((below_alloc _ _).mono (by simp; omega))
  have hq3 : (((w.alloc (.cells #[.slice sa sn sc] 34)).alloc (.cells #[.slice a1 n1 c1, .slice a2 n2 c2] 38)).alloc (.cells #[.slice none 0 0] 32)).heap[w.heap.size + 1 + 1]? = some (.cells #[.slice none 0 0] 32 (0, 0)) := by
    have := heap_alloc_new ((w.alloc (.cells #[.slice sa sn sc] 34)).alloc (.cells #[.slice a1 n1 c1, .slice a2 n2 c2] 38)) (.cells #[.slice none 0 0] 32); simpa using this
  have hs3 : (((w.alloc (.cells #[.slice sa sn sc] 34)).alloc (.cells #[.slice a1 n1 c1, .slice a2 n2 c2] 38)).alloc (.cells #[.slice none 0 0] 32)).heap.size = w.heap.size + 1 + 1 + 1 := by simp
  generalize (((w.alloc (.cells #[.slice sa sn sc] 34)).alloc (.cells #[.slice a1 n1 c1, .slice a2 n2 c2] 38)).alloc (.cells #[.slice none 0 0] 32)) = w2 at *
  have h24 : Below w2.heap.size w2 w4 := by rw [hw4]; exact ((below_alloc w2 _).trans ((below_alloc _ _).mono (by simp))).trans ((below_alloc _ _).mono (by simp; omega))
  have e1 : w4.heap[w.heap.size + 1 + 1 + 1]? = some (.cells #[.slice sa sn sc] 34 (0, 0)) := by
    rw [hw4, ← hs3]; exact (Below.heap_alloc _ _ _ (by simp; omega)).trans ((Below.heap_alloc _ _ _ (by simp)).trans (heap_alloc_new w2 _))
  have e2 : w4.heap[w.heap.size + 1 + 1 + 1 + 1]? = some (.cells #[.slice a1 n1 c1, .slice a2 n2 c2] 38 (0, 0)) := by
    rw [hw4, ← hs3]; refine (Below.heap_alloc _ _ _ (by simp)).trans ?_
    have := heap_alloc_new (w2.alloc (.cells #[.slice sa sn sc] 34)) (.cells #[.slice a1 n1 c1, .slice a2 n2 c2] 38); simpa using this
  have e3 : w4.heap[w.heap.size + 1 + 1 + 1 + 1 + 1]? = some (.cells #[.slice da dn dc] 40 (0, 0)) := by
    rw [hw4, ← hs3]
    have := heap_alloc_new ((w2.alloc (.cells #[.slice sa sn sc] 34)).alloc (.cells #[.slice a1 n1 c1, .slice a2 n2 c2] 38)) (.cells #[.slice da dn dc] 40); simpa using this
  have hB4 : Below w.heap.size w w4 := bnext hb3 h24
  have hP0 : BInv w w4 (w.heap.size + 1 + 1) [] := BInv.grow ⟨_, [], ⟨OutII.nil 22 w w2 hb3, cell_of_row _ _ 0 _ _ _ hq3, froz_b hq3, by omega, by omega, by simp [blk], by simp⟩, hq3⟩ h24
  clear hw4 hb3 hq3 hs3 h24
  refine wpIn_rangeFunc_ownH rfl (by omega) (gf := 107) (lb := #[.pointer (some ⟨w.heap.size + 1 + 1 + 1, 0, none⟩), .pointer (some ⟨w.heap.size + 1 + 1 + 1 + 1, 0, none⟩), .pointer (some ⟨w.heap.size + 1 + 1 + 1 + 1 + 1, 0, none⟩)]) rfl trivial (enters_of Tryz.func107 (by kernel_rfl) rfl)
    (HST.out w4 hB4 _ _ _ e1 e2 e3 5) KpB.trans (kpB_b hB4.size) (Below.refl _ _) (fun _ => rfl)
    (fun pre W => BInv w W (w.heap.size + 1 + 1) (pre.map (·.1)) ∧ w4.heap.size ≤ W.heap.size)
    (fun c pre W => False)
    (OwnFrom.and (BInv.own _ hB4.size) (own_size _ _))
    (fun c => own_pure _ _)
    ⟨hP0, Nat.le_refl _⟩
    (fun x a' W => ∃ Bx, (w4.heap.size ≤ Bx ∧ a' = { tmps := #[.agg #[.slice sa sn sc], .agg #[.slice a1 n1 c1, .slice a2 n2 c2], .slice da dn dc, .pointer (some ⟨w.heap.size, 0, none⟩), .pointer (some ⟨w.heap.size + 1, 0, none⟩), undef, .slice none 0 0, .pointer (some ⟨w.heap.size + 1 + 1, 0, none⟩), .pointer (some ⟨Bx, 0, none⟩), .agg #[.slice sa sn sc], .agg #[.slice a1 n1 c1, .slice a2 n2 c2], .slice da dn dc, .func (.func 107) #[] #[.pointer (some ⟨w.heap.size + 1 + 1 + 1, 0, none⟩), .pointer (some ⟨w.heap.size + 1 + 1 + 1 + 1, 0, none⟩), .pointer (some ⟨w.heap.size + 1 + 1 + 1 + 1 + 1, 0, none⟩)], bV x.1, undef, undef, undef, undef, undef, undef, undef, undef], defers := [] }) ∧ W.heap[Bx]? = some (.cells (bA x.1) 89 (0, 0)))
    (fun x a' s A B row hs hg hr => by obtain ⟨Bx, h1, h2⟩ := hs; exact ⟨Bx, h1, own_block w4.heap.size Bx (fun (_ : Unit) => bA x.1) _ () A B row h2 hg hr⟩)
    ?assign ?body ?done ?stop
  case assign =>
    rintro l pre x W K ⟨hI, hsz⟩ hK
    have hG := heap_alloc_new W (.cells #[.int .i64 0, .int .i64 0, .int .i64 0, .int .i64 0, .int .i64 0, .int .i64 0, .int .i64 0, .int .i64 0, .int .i64 0, .int .i64 0, .int .i64 0, .int .i64 0, .int .i64 0, .int .i64 0, .int .i64 0, .int .i64 0, .int .i64 0, .int .i64 0, .int .i64 0, .int .i64 0] 89)
    have hx := x.2
    have hsL : (#[.int .i64 0, .int .i64 0, .int .i64 0, .int .i64 0, .int .i64 0, .int .i64 0, .int .i64 0, .int .i64 0, .int .i64 0, .int .i64 0, .int .i64 0, .int .i64 0, .int .i64 0, .int .i64 0, .int .i64 0, .int .i64 0, .int .i64 0, .int .i64 0, .int .i64 0, .int .i64 0] : Array Value).size = 20 := rfl
    have HI := Lib.hid hI
    have HSZ := Lib.hid hsz
    clear hI hsz
    simp only [encB]
    gi_wp2_with ((with_reducible refine wpListIn_store_b rfl _ _ rfl _ _ hx _ hsL ?_ ?_ hG ?_); (focus rfl); (focus rfl))
    have hbn : Below W.heap.size W ((W.alloc (.cells #[.int .i64 0, .int .i64 0, .int .i64 0, .int .i64 0, .int .i64 0, .int .i64 0, .int .i64 0, .int .i64 0, .int .i64 0, .int .i64 0, .int .i64 0, .int .i64 0, .int .i64 0, .int .i64 0, .int .i64 0, .int .i64 0, .int .i64 0, .int .i64 0, .int .i64 0, .int .i64 0] 89)).setRow W.heap.size (bA x.1)) := OnlyAt.below (below_alloc W _) (OnlyAt.setRow _ _ _) (by simp)
    exact hK _ _ (keepsFrom_below hbn) (KpB.ofBelow hbn (Nat.le_trans hB4.size HSZ.out)) ⟨HI.out.grow hbn, Nat.le_trans HSZ.out hbn.size⟩ ⟨W.heap.size, ⟨HSZ.out, rfl⟩, setRow_heap _ _ _ _ _ _ hG⟩
  case body =>
    rintro l pre x a' W hl ⟨r, hr⟩ ⟨⟨ov, bss, hP, hBh⟩, hsz⟩ ⟨Bx, ⟨hBx, rfl⟩, gx⟩ hlt
    obtain ⟨L, hL⟩ : ∃ L, L = pre.map (·.1) := ⟨_, rfl⟩
    rw [← hL] at hP
    have HL := Lib.hid hL
    have hN : L.length + 1 ≤ 1099511627776 := by have := HLE.out; rw [hL]; simp; omega
    have hP1 := hP.1
    obtain ⟨⟨cs, hc1, hc2⟩, _⟩ := hP1
    have cB : W.drew.cell? ⟨w.heap.size + 1 + 1, 0, none⟩ = some ov := by simpa using hP.2.1
    have HP := Lib.hid hP
    have HC1 := Lib.hid hc1
    have HC2 := Lib.hid hc2
    have HBH := Lib.hid hBh
    have HSZ := Lib.hid hsz
    have HIX : Hid (Ints W.drew (.slice (some ⟨Bx, 0, none⟩) 20 20) x.1) := by
      refine ⟨x.2.2, .inr ⟨Bx, 0, 20, 20, rfl, x.2.1, by omega, by decide, (Array.getElem?_eq_some_iff.1 gx).1, fun j hj => ?_⟩⟩
      rw [Nat.zero_add]
      exact cell_b gx (by rw [x.2.1]; exact hj)
    clear hP hc1 hc2 hBh hsz hP0 e1 e2 e3 hL
    gi_wp2_with (fail)
    refine wpIn_region_any (by kernel_rfl) ?_
    change wpAnyIn _ _ _ _ _ _ _ _ _ (World.drew W)
    refine wpAnyIn_ready (rs := [0, 1]) (by kernel_rfl) (by simp) ?_
    refine AllReadyIn.cons rfl (fun K hK => inR rfl rfl ?_) (AllReadyIn.cons rfl (fun K hK => inR rfl rfl ?_) AllReadyIn.nil)
    · go_simp
      refine hK _ _ ?_
      clear hK K
      refine wpAnyIn_ready (rs := [1]) (by kernel_rfl) (by simp) ?_
      refine AllReadyIn.cons rfl (fun K hK => inR rfl rfl ?_) AllReadyIn.nil
      go_simp
      refine hK _ _ ?_
      clear hK K
      refine wpAnyIn_ready (rs := [2]) (by kernel_rfl) (by simp) ?_
      refine AllReadyIn.cons rfl (fun K hK => inR rfl rfl ?_) AllReadyIn.nil
      go_simp
      refine (HCL.out _ _ x.1 HIX.out (by rw [x.2.1]; decide)).mono ?_
      rintro e w5 ⟨vb, bsb, rfl, hob, hfb, hbb⟩
      obtain ⟨va, vn, vc, rfl⟩ := hob.1.shape
      have hb5 := bnext (Below.refl W.heap.size W).drew hbb
      have HB5 := Lib.hid hb5
      have k5 := cellk hb5 HP.out.2.1
      have f5 := frok hb5 HP.out.2.1 HP.out.2.2.1
      have k6 := cellk (below_alloc w5 (.cells #[.slice va vn vc] 22)) k5
      have HOB := Lib.hid hob
      have HFB := Lib.hid (hfb.wide (Nat.le_refl _) (Nat.le_refl _) : Fresh W w5 bsb)
      clear hob hfb hbb hb5
      go_simp
      refine hK _ _ ?_
      clear hK K
      refine wpAnyIn_ready (rs := [3]) (by kernel_rfl) (by simp) ?_
      refine AllReadyIn.cons rfl (fun K hK => inR rfl rfl ?_) AllReadyIn.nil
      go_simp
      refine hK _ _ ?_
      clear hK K
      refine wpAnyIn_ready (rs := [4]) (by kernel_rfl) (by simp) ?_
      refine AllReadyIn.cons rfl (fun K hK => inR rfl rfl ?_) AllReadyIn.nil
      refine step_app1D (by rfl) (.tmp 14) (.tmp 17) 32 (by rfl) 22 (.slice none 0 0) 1 24 Tryz.underlying32 info_IntSl (by decide) (by decide) (by rfl) ov L.length cs (by rfl) (HC1.out.grow (bnext HB5.out (below_alloc w5 _))) w5.heap.size [.slice va vn vc] (by rfl) (by simp [Value.oneCell']) (by rfl) (heap_alloc_new w5 _) hN ?_
      intro g' cap' w7 hown' ko hbl
      have z1 := ko.cell HP.out.2.2.2.2.2.1 k6
      have z2 := ko.frozen (o := 0) (World.block_lt_of_cell? _ _ k6) HP.out.2.2.2.2.2.1 (frok (below_alloc w5 (.cells #[.slice va vn vc] 22)) k5 f5)
      have HNEW := Lib.hid (PInv.step HP.out HC1.out HC2.out HB5.out (below_alloc w5 _) HOB.out HFB.out hown' ko (fun b hb => (hbl b hb).imp id (fun e => by rw [e]; exact Nat.le_refl _)))
      have hq7 := (ko.block _ (Nat.lt_of_lt_of_le (Array.getElem?_eq_some_iff.1 HBH.out).1 (bnext HB5.out (below_alloc w5 (.cells #[.slice va vn vc] 22))).size) HP.out.2.2.2.2.2.1).trans (((bnext HB5.out (below_alloc w5 (.cells #[.slice va vn vc] 22))).block _ (Array.getElem?_eq_some_iff.1 HBH.out).1).trans HBH.out)
      have HQ7 := Lib.hid (fun v => heap_setCell_at (i := 0) hq7 v)
      clear hown' ko hbl hq7
      try go_simp
      refine hK _ _ ?_
      clear hK K
      refine wpAnyIn_ready (rs := [5]) (by kernel_rfl) (by simp) ?_
      refine AllReadyIn.cons rfl (fun K hK => inR rfl rfl ?_) AllReadyIn.nil
      go_simp
      refine hK _ _ ?_
      clear hK K
      refine wpAnyIn_done (by kernel_rfl) ?_ _
      obtain ⟨hn1, hn2, _⟩ := HNEW.out
      obtain ⟨hn3, hn4⟩ := keeps_rows w4.heap.size HC1.out HBH.out HP.out.2.2.2.1 HNEW.out.2.1
      exact ⟨hn3, hn4, ⟨_, _, by rw [List.map_append, ← HL.out]; exact hn1, HQ7.out _⟩, Nat.le_trans HSZ.out hn2.size⟩
    · go_simp
      refine hK _ _ ?_
      clear hK K
      refine wpAnyIn_ready (rs := [0, 2]) (by kernel_rfl) (by simp) ?_
      refine AllReadyIn.cons rfl (fun K hK => inR rfl rfl ?_) (AllReadyIn.cons rfl (fun K hK => inR rfl rfl ?_) AllReadyIn.nil)
      · go_simp
        refine hK _ _ ?_
        clear hK K
        refine wpAnyIn_ready (rs := [2]) (by kernel_rfl) (by simp) ?_
        refine AllReadyIn.cons rfl (fun K hK => inR rfl rfl ?_) AllReadyIn.nil
        go_simp
        refine (HCL.out _ _ x.1 HIX.out (by rw [x.2.1]; decide)).mono ?_
        rintro e w5 ⟨vb, bsb, rfl, hob, hfb, hbb⟩
        obtain ⟨va, vn, vc, rfl⟩ := hob.1.shape
        have hb5 := bnext (Below.refl W.heap.size W).drew hbb
        have HB5 := Lib.hid hb5
        have k5 := cellk hb5 HP.out.2.1
        have f5 := frok hb5 HP.out.2.1 HP.out.2.2.1
        have k6 := cellk (below_alloc w5 (.cells #[.slice va vn vc] 22)) k5
        have HOB := Lib.hid hob
        have HFB := Lib.hid (hfb.wide (Nat.le_refl _) (Nat.le_refl _) : Fresh W w5 bsb)
        clear hob hfb hbb hb5
        go_simp
        refine hK _ _ ?_
        clear hK K
        refine wpAnyIn_ready (rs := [3]) (by kernel_rfl) (by simp) ?_
        refine AllReadyIn.cons rfl (fun K hK => inR rfl rfl ?_) AllReadyIn.nil
        go_simp
        refine hK _ _ ?_
        clear hK K
        refine wpAnyIn_ready (rs := [4]) (by kernel_rfl) (by simp) ?_
        refine AllReadyIn.cons rfl (fun K hK => inR rfl rfl ?_) AllReadyIn.nil
        refine step_app1D (by rfl) (.tmp 14) (.tmp 17) 32 (by rfl) 22 (.slice none 0 0) 1 24 Tryz.underlying32 info_IntSl (by decide) (by decide) (by rfl) ov L.length cs (by rfl) (HC1.out.grow (bnext HB5.out (below_alloc w5 _))) w5.heap.size [.slice va vn vc] (by rfl) (by simp [Value.oneCell']) (by rfl) (heap_alloc_new w5 _) hN ?_
        intro g' cap' w7 hown' ko hbl
        have z1 := ko.cell HP.out.2.2.2.2.2.1 k6
        have z2 := ko.frozen (o := 0) (World.block_lt_of_cell? _ _ k6) HP.out.2.2.2.2.2.1 (frok (below_alloc w5 (.cells #[.slice va vn vc] 22)) k5 f5)
        have HNEW := Lib.hid (PInv.step HP.out HC1.out HC2.out HB5.out (below_alloc w5 _) HOB.out HFB.out hown' ko (fun b hb => (hbl b hb).imp id (fun e => by rw [e]; exact Nat.le_refl _)))
        have hq7 := (ko.block _ (Nat.lt_of_lt_of_le (Array.getElem?_eq_some_iff.1 HBH.out).1 (bnext HB5.out (below_alloc w5 (.cells #[.slice va vn vc] 22))).size) HP.out.2.2.2.2.2.1).trans (((bnext HB5.out (below_alloc w5 (.cells #[.slice va vn vc] 22))).block _ (Array.getElem?_eq_some_iff.1 HBH.out).1).trans HBH.out)
        have HQ7 := Lib.hid (fun v => heap_setCell_at (i := 0) hq7 v)
        clear hown' ko hbl hq7
        try go_simp
        refine hK _ _ ?_
        clear hK K
        refine wpAnyIn_ready (rs := [5]) (by kernel_rfl) (by simp) ?_
        refine AllReadyIn.cons rfl (fun K hK => inR rfl rfl ?_) AllReadyIn.nil
        go_simp
        refine hK _ _ ?_
        clear hK K
        refine wpAnyIn_done (by kernel_rfl) ?_ _
        obtain ⟨hn1, hn2, _⟩ := HNEW.out
        obtain ⟨hn3, hn4⟩ := keeps_rows w4.heap.size HC1.out HBH.out HP.out.2.2.2.1 HNEW.out.2.1
        exact ⟨hn3, hn4, ⟨_, _, by rw [List.map_append, ← HL.out]; exact hn1, HQ7.out _⟩, Nat.le_trans HSZ.out hn2.size⟩
      · go_simp
        refine (HCL.out _ _ x.1 HIX.out (by rw [x.2.1]; decide)).mono ?_
        rintro e w5 ⟨vb, bsb, rfl, hob, hfb, hbb⟩
        obtain ⟨va, vn, vc, rfl⟩ := hob.1.shape
        have hb5 := bnext (Below.refl W.heap.size W).drew hbb
        have HB5 := Lib.hid hb5
        have k5 := cellk hb5 HP.out.2.1
        have f5 := frok hb5 HP.out.2.1 HP.out.2.2.1
        have k6 := cellk (below_alloc w5 (.cells #[.slice va vn vc] 22)) k5
        have HOB := Lib.hid hob
        have HFB := Lib.hid (hfb.wide (Nat.le_refl _) (Nat.le_refl _) : Fresh W w5 bsb)
        clear hob hfb hbb hb5
        go_simp
        refine hK _ _ ?_
        clear hK K
        refine wpAnyIn_ready (rs := [0, 3]) (by kernel_rfl) (by simp) ?_
        refine AllReadyIn.cons rfl (fun K hK => inR rfl rfl ?_) (AllReadyIn.cons rfl (fun K hK => inR rfl rfl ?_) AllReadyIn.nil)
        · go_simp
          refine hK _ _ ?_
          clear hK K
          refine wpAnyIn_ready (rs := [3]) (by kernel_rfl) (by simp) ?_
          refine AllReadyIn.cons rfl (fun K hK => inR rfl rfl ?_) AllReadyIn.nil
          go_simp
          refine hK _ _ ?_
          clear hK K
          refine wpAnyIn_ready (rs := [4]) (by kernel_rfl) (by simp) ?_
          refine AllReadyIn.cons rfl (fun K hK => inR rfl rfl ?_) AllReadyIn.nil
          refine step_app1D (by rfl) (.tmp 14) (.tmp 17) 32 (by rfl) 22 (.slice none 0 0) 1 24 Tryz.underlying32 info_IntSl (by decide) (by decide) (by rfl) ov L.length cs (by rfl) (HC1.out.grow (bnext HB5.out (below_alloc w5 _))) w5.heap.size [.slice va vn vc] (by rfl) (by simp [Value.oneCell']) (by rfl) (heap_alloc_new w5 _) hN ?_
          intro g' cap' w7 hown' ko hbl
          have z1 := ko.cell HP.out.2.2.2.2.2.1 k6
          have z2 := ko.frozen (o := 0) (World.block_lt_of_cell? _ _ k6) HP.out.2.2.2.2.2.1 (frok (below_alloc w5 (.cells #[.slice va vn vc] 22)) k5 f5)
          have HNEW := Lib.hid (PInv.step HP.out HC1.out HC2.out HB5.out (below_alloc w5 _) HOB.out HFB.out hown' ko (fun b hb => (hbl b hb).imp id (fun e => by rw [e]; exact Nat.le_refl _)))
          have hq7 := (ko.block _ (Nat.lt_of_lt_of_le (Array.getElem?_eq_some_iff.1 HBH.out).1 (bnext HB5.out (below_alloc w5 (.cells #[.slice va vn vc] 22))).size) HP.out.2.2.2.2.2.1).trans (((bnext HB5.out (below_alloc w5 (.cells #[.slice va vn vc] 22))).block _ (Array.getElem?_eq_some_iff.1 HBH.out).1).trans HBH.out)
          have HQ7 := Lib.hid (fun v => heap_setCell_at (i := 0) hq7 v)
          clear hown' ko hbl hq7
          try go_simp
          refine hK _ _ ?_
          clear hK K
          refine wpAnyIn_ready (rs := [5]) (by kernel_rfl) (by simp) ?_
          refine AllReadyIn.cons rfl (fun K hK => inR rfl rfl ?_) AllReadyIn.nil
          go_simp
          refine hK _ _ ?_
          clear hK K
          refine wpAnyIn_done (by kernel_rfl) ?_ _
          obtain ⟨hn1, hn2, _⟩ := HNEW.out
          obtain ⟨hn3, hn4⟩ := keeps_rows w4.heap.size HC1.out HBH.out HP.out.2.2.2.1 HNEW.out.2.1
          exact ⟨hn3, hn4, ⟨_, _, by rw [List.map_append, ← HL.out]; exact hn1, HQ7.out _⟩, Nat.le_trans HSZ.out hn2.size⟩
        · go_simp
          refine hK _ _ ?_
          clear hK K
          refine wpAnyIn_ready (rs := [0]) (by kernel_rfl) (by simp) ?_
          refine AllReadyIn.cons rfl (fun K hK => inR rfl rfl ?_) AllReadyIn.nil
          go_simp
          refine hK _ _ ?_
          clear hK K
          refine wpAnyIn_ready (rs := [4]) (by kernel_rfl) (by simp) ?_
          refine AllReadyIn.cons rfl (fun K hK => inR rfl rfl ?_) AllReadyIn.nil
          refine step_app1D (by rfl) (.tmp 14) (.tmp 17) 32 (by rfl) 22 (.slice none 0 0) 1 24 Tryz.underlying32 info_IntSl (by decide) (by decide) (by rfl) ov L.length cs (by rfl) (HC1.out.grow (bnext HB5.out (below_alloc w5 _))) w5.heap.size [.slice va vn vc] (by rfl) (by simp [Value.oneCell']) (by rfl) (heap_alloc_new w5 _) hN ?_
          intro g' cap' w7 hown' ko hbl
          have z1 := ko.cell HP.out.2.2.2.2.2.1 k6
          have z2 := ko.frozen (o := 0) (World.block_lt_of_cell? _ _ k6) HP.out.2.2.2.2.2.1 (frok (below_alloc w5 (.cells #[.slice va vn vc] 22)) k5 f5)
          have HNEW := Lib.hid (PInv.step HP.out HC1.out HC2.out HB5.out (below_alloc w5 _) HOB.out HFB.out hown' ko (fun b hb => (hbl b hb).imp id (fun e => by rw [e]; exact Nat.le_refl _)))
          have hq7 := (ko.block _ (Nat.lt_of_lt_of_le (Array.getElem?_eq_some_iff.1 HBH.out).1 (bnext HB5.out (below_alloc w5 (.cells #[.slice va vn vc] 22))).size) HP.out.2.2.2.2.2.1).trans (((bnext HB5.out (below_alloc w5 (.cells #[.slice va vn vc] 22))).block _ (Array.getElem?_eq_some_iff.1 HBH.out).1).trans HBH.out)
          have HQ7 := Lib.hid (fun v => heap_setCell_at (i := 0) hq7 v)
          clear hown' ko hbl hq7
          try go_simp
          refine hK _ _ ?_
          clear hK K
          refine wpAnyIn_ready (rs := [5]) (by kernel_rfl) (by simp) ?_
          refine AllReadyIn.cons rfl (fun K hK => inR rfl rfl ?_) AllReadyIn.nil
          go_simp
          refine hK _ _ ?_
          clear hK K
          refine wpAnyIn_done (by kernel_rfl) ?_ _
          obtain ⟨hn1, hn2, _⟩ := HNEW.out
          obtain ⟨hn3, hn4⟩ := keeps_rows w4.heap.size HC1.out HBH.out HP.out.2.2.2.1 HNEW.out.2.1
          exact ⟨hn3, hn4, ⟨_, _, by rw [List.map_append, ← HL.out]; exact hn1, HQ7.out _⟩, Nat.le_trans HSZ.out hn2.size⟩
  case done =>
    rintro D xs W hD hS ⟨⟨ov, bss, hP, hBh⟩, hsz⟩ hK
    have cB := hP.2.1
    have hSO := Lib.hid (iSortII_any w W ov _ bss hP.1 (by rw [hS]; exact HLE.out))
    have HP := Lib.hid hP
    have HDK := Lib.hid hK
    clear hP hBh hsz hP0 e1 e2 e3
    gi_wp2_with (fail)
    refine ⟨trivial, ?_⟩
    refine (callsIn_wide.2 hSO.out).mono ?_
    rintro e w6 ⟨rfl, l', bss', ho, hp, ha, ko⟩
    have cB6 := ko.cell HP.out.2.2.2.2.2.1 cB
    have hDn : D ∉ blk ov := fun hm => by
      obtain ⟨⟨cs, g1, _⟩, _⟩ := HP.out.1
      obtain ⟨c, fr, e⟩ := cells_blk g1 D hm
      rw [HDK.out] at e; cases e
    have hK6 := (ko.block D (Array.getElem?_eq_some_iff.1 HDK.out).1 hDn).trans HDK.out
    have HO := Lib.hid ho
    have HE6 : Hid (l' = bindingsN s d db) := HSO.out l' ha (by rw [← hS]; exact hp)
    clear ko ho hDn hp ha
    gi_wp2_with (fail)
    refine ⟨by simp, .inl ⟨_, _, rfl, run_takeDeferred hK6, ?_⟩⟩
    have hf := OutII.own HO.out (grownBy_putObj' w6 D (.deferred none)) (fun r e => by cases e; exact ⟨Nat.le_trans hB4.size hD, _, hK6, rfl⟩)
    obtain ⟨bs, b1, b2⟩ := hf.done
    rw [HE6.out] at b1
    exact ⟨_, results_tmp Tryz.results16 _ _ _, _, bs, rfl, b1, b2, hf.below⟩
  case stop =>
    rintro D c pre W hD hS h hK
    exact h.elim
end Go.Proofs.YtfojllkkbdpfkaaGreat
