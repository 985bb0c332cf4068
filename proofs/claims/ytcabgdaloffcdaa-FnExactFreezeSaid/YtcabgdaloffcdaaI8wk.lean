/- Ranging over a map (entries that are gone), facts built by append while the iterator moves, packed atoms as keys. -/
import Derived.Maps.OwnIn
import Derived.Test.YtcabgdaloffcdaaI8vl
import Derived.Test.YtcabgdaloffcdaaI8srt
namespace Go.Proofs.Ytcabgdaloffcdaa
open Go Go.Sort Go.RowKit
open Go.ChangeMaps (setBlock)
set_option linter.unusedVariables false

/-- Under way: the entries 'gone' came already, in this order. -/
def Walk8 (P : Program) (k : TypeId) (W : World) (M r : Nat) (es : Array MapEntry) (clock : Nat) (gone : List MapEntry) : Prop :=
  W.heap[M]? = some (.map es clock) ∧ Keyed8 P k es clock ∧ (∃ seen, W.heap[r]? = some (.mapIter (some M) clock seen clock) ∧ seen.toList = gone.map (·.born)) ∧ (gone.map (·.born)).Nodup ∧ ∀ e ∈ gone, e ∈ es.toList
theorem Walk8.grow {P : Program} {k : TypeId} {W W' : World} {M r : Nat} {es : Array MapEntry} {clock : Nat} {gone : List MapEntry} (h : Walk8 P k W M r es clock gone) (hm : W'.heap[M]? = W.heap[M]?) (hr : W'.heap[r]? = W.heap[r]?) : Walk8 P k W' M r es clock gone := by
  obtain ⟨h1, h2, ⟨seen, h3, h4⟩, h5, h6⟩ := h
  exact ⟨hm.trans h1, h2, ⟨seen, hr.trans h3, h4⟩, h5, h6⟩
theorem perm_of_gone8 {es : List MapEntry} {gone : List MapEntry} (hn : (es.map (·.born)).Nodup) (hg : (gone.map (·.born)).Nodup) (hm : ∀ e ∈ gone, e ∈ es) (hall : ∀ e ∈ es, e.born ∈ gone.map (·.born)) : gone.Perm es := by
  refine (List.perm_ext_iff_of_nodup (List.Pairwise.of_map _ (fun a b h e => h (by rw [e])) hg) (List.Pairwise.of_map _ (fun a b h e => h (by rw [e])) hn)).2 (fun e => ⟨hm e, fun he => ?_⟩)
  obtain ⟨g, hgm, hb⟩ := List.mem_map.1 (hall e he)
  obtain ⟨i, hi⟩ := List.mem_iff_getElem?.1 he
  obtain ⟨j, hj⟩ := List.mem_iff_getElem?.1 (hm g hgm)
  obtain ⟨x1, y1⟩ := List.getElem?_eq_some_iff.1 hi
  obtain ⟨x2, y2⟩ := List.getElem?_eq_some_iff.1 hj
  have := (List.getElem_inj (h₀ := by simpa using x1) (h₁ := by simpa using x2) (xs := es.map (·.born)) (i := i) (j := j) hn).1 (by rw [List.getElem_map, List.getElem_map, y1, y2, hb])
  subst this
  rw [y1] at y2; rw [y2]; exact hgm
theorem leftOf_done8 {es : Array MapEntry} {seen : Array Nat} (h : (Go.leftOf es seen).size = 0) : ∀ e ∈ es.toList, e.born ∈ seen.toList := by
  intro e he
  have h1 : Go.leftOf es seen = #[] := Array.eq_empty_of_size_eq_zero h
  unfold Go.leftOf at h1
  rw [Array.filter_eq_empty_iff] at h1
  have := h1 e (by simpa using he)
  simpa using this
theorem leftOf_mem8 {es : Array MapEntry} {seen : Array Nat} {e : MapEntry} (h : e ∈ (Go.leftOf es seen).toList) : e ∈ es.toList ∧ e.born ∉ seen.toList := by
  unfold Go.leftOf at h
  simp at h
  exact ⟨by simpa using h.1, by simpa using h.2⟩
theorem Walk8.entry {P : Program} {k : TypeId} {W : World} {M r : Nat} {es : Array MapEntry} {clock : Nat} {gone : List MapEntry} {e : MapEntry} (h : Walk8 P k W M r es clock (gone ++ [e])) :
    (Instr.entry (.pointer (some ⟨r, 0, none⟩))).run P W = .ok (.tuple #[e.key, e.val]) W := by
  obtain ⟨h1, h2, ⟨seen, h3, h4⟩, h5, h6⟩ := h
  obtain ⟨s0, hs0⟩ : ∃ s0 : Array Nat, seen = s0.push e.born := by
    refine ⟨(gone.map (·.born)).toArray, Array.toList_inj.1 ?_⟩
    rw [h4]; simp
  subst hs0
  exact run_entry_at W r M clock s0 es clock e h3 h1 (h6 e (by simp)) h2.stamped.2.1

section
variable {P : Program} (w : World) {ops : Array Oper} {rest : List Oper} {o : Oper} {a : Act} {Q : Exit → Act → World → Prop}
theorem wpList_range8 (hg : o.guard = none) (m : Operand) (t k e : TypeId) (hop : o.op = Op.range t m) (ht : P.underlying t = some (.map k e)) (M : Nat) (es : Array MapEntry) (clock : Nat)
    (hm : a.eval m = .map (some M)) (hb : w.heap[M]? = some (.map es clock)) (hF : Keyed8 P k es clock)
    (hK : ∀ w', Walk8 P k w' M w.heap.size es clock [] → Below w.heap.size w w' → w'.heap.size = w.heap.size + 1 → wpList P ops Q rest (a.put o.dst (.pointer (some ⟨w.heap.size, 0, none⟩))) w') :
    wpList P ops Q (o :: rest) a w := by
  refine wpList_plain hg fun K' hK' => ?_
  have hrun := run_range_map w t k e M es clock ht hb
  unfold Oper.wp
  simp [execOp, hop, hm, hrun, Result.andThen]
  exact hK' _ _ (hK _ ⟨((below_alloc w _).block _ (Array.getElem?_eq_some_iff.1 hb).1).trans hb, hF, ⟨#[], heap_alloc_new w _, rfl⟩, List.Pairwise.nil, fun e he => by cases he⟩ (below_alloc w _) (by simp))
theorem wpList_next8 (hg : o.guard = none) (it : Operand) (hop : o.op = Op.next it false) (k : TypeId) (M r : Nat) (es : Array MapEntry) (clock : Nat) (gone : List MapEntry)
    (hit : a.eval it = .pointer (some ⟨r, 0, none⟩)) (hne : M ≠ r) (h : Walk8 P k w M r es clock gone)
    (hDone : gone.Perm es.toList → wpList P ops Q rest (a.put o.dst (.tuple #[.bool false])) w)
    (hMore : ∀ (e : MapEntry) (w' : World), e ∈ es.toList → gone.length < es.toList.length → Walk8 P k w' M r es clock (gone ++ [e]) → OnlyAt [r] w w' → wpList P ops Q rest (a.put o.dst (.tuple #[.bool true, e.key, e.val])) w') :
    wpList P ops Q (o :: rest) a w := by
  obtain ⟨h1, h2, ⟨seen, h3, h4⟩, h5, h6⟩ := h
  refine wpList_plain hg fun K' hK' => ?_
  unfold Oper.wp
  rcases run_next_at (P := P) w o.type r M clock clock seen es clock h3 h1 h2.stamped.1 (Nat.le_refl _) with ⟨h0, hrun⟩ | ⟨e, he, w1, hw1, hrun⟩
  · simp [execOp, hop, hit, hrun, Result.andThen]
    exact hK' _ _ (hDone (perm_of_gone8 h2.stamped.2.1 h5 h6 (fun e he => by rw [← h4]; exact leftOf_done8 h0 e he)))
  · simp [execOp, hop, hit, hrun, Result.andThen]
    obtain ⟨he1, he2⟩ := leftOf_mem8 he
    have hw : w1.heap = w.heap ∧ w1.os = w.os ∧ w1.tape = w.tape ∧ w1.output = w.output := by
      rcases hw1 with rfl | rfl <;> exact ⟨rfl, rfl, rfl, rfl⟩
    obtain ⟨e1, e2, e3, e4⟩ := hw
    have hon : OnlyAt [r] w (setBlock w1 r (.mapIter (some M) clock (seen.push e.born) clock)) :=
      ⟨e2, e3, e4, by simp [setBlock, e1], fun j _ hn => by simp [setBlock, e1, show ¬ r = j from fun e => hn (by simp [e])]⟩
    rw [h4] at he2
    have hnd : ((gone ++ [e]).map (·.born)).Nodup := by
      rw [List.map_append, List.nodup_append]
      exact ⟨h5, by simp, fun x hx y hy e => by simp at hy; subst hy; subst e; exact he2 hx⟩
    have hsub : ∀ x ∈ gone ++ [e], x ∈ es.toList := fun x hx => by
      rcases List.mem_append.1 hx with h | h
      · exact h6 x h
      · rw [List.mem_singleton.1 h]; exact he1
    refine hK' _ _ (hMore e _ he1 ?_ ⟨(hon.block M (Array.getElem?_eq_some_iff.1 h1).1 (by simpa using hne)).trans h1, h2, ⟨seen.push e.born, ?_, by simp [h4]⟩, hnd, hsub⟩ hon)
    · have := List.Nodup.length_le_of_subset hnd (l₂ := es.toList.map (·.born)) (fun x hx => by
        obtain ⟨y, hy, rfl⟩ := List.mem_map.1 hx
        exact List.mem_map.2 ⟨y, hsub y hy, rfl⟩)
      simp at this
      simp; omega
    · simp [setBlock, e1, (Array.getElem?_eq_some_iff.1 h3).1]
end

def goneOf8 (W : World) (r : Nat) (n : Nat) : Nat := match W.heap[r]? with | some (.mapIter _ _ seen _) => n - seen.size | _ => 0
theorem Walk8.meas {P : Program} {k : TypeId} {W : World} {M r : Nat} {es : Array MapEntry} {clock : Nat} {gone : List MapEntry} (h : Walk8 P k W M r es clock gone) : goneOf8 W r es.size = es.size - gone.length := by
  obtain ⟨_, _, ⟨seen, h3, h4⟩, _⟩ := h
  unfold goneOf8
  rw [h3]
  have := congrArg List.length h4
  simp at this
  simp [this]
/-- A world of just the blocks below a bound. -/
theorem virt8 (w : World) (B : Nat) (h : B ≤ w.heap.size) : ∃ W : World, W.heap.size = B ∧ Below W.heap.size W w := by
  refine ⟨{ w with heap := w.heap.extract 0 B }, by simp; omega, rfl, rfl, rfl, by simp; omega, fun k hk => ?_⟩
  simp at hk
  simp [Array.getElem?_extract]
  omega
theorem OutInv.rebase8 {E : TypeId} {W W' w w' : World} {v : Value} {l : List AtomD} {bss : List (List Nat)} {bs' : List Nat} (h : OutInv E W w v l bss) (hW : W'.heap.size ≤ W.heap.size) (hb : Below W'.heap.size W' w') (ko : OnlyAt bs' w w') (hv : ∀ b ∈ blk v, b ∉ bs') (hn : ∀ b ∈ bss.flatten, b ∉ bs') : OutInv E W' w' v l bss := by
  obtain ⟨⟨cs, h1, h2, h3⟩, h6, h7⟩ := h
  refine ⟨⟨cs, ⟨⟨h1.1.1, ?_⟩, hb⟩, h2, fun j d hd => ?_⟩, h6, fun b hm => ⟨Nat.le_trans hW (h7 b hm).1, Nat.lt_of_lt_of_le (h7 b hm).2 ko.size⟩⟩
  · rcases h1.1.2 with h4 | ⟨g, cap, cur, rfl, h4, hg, h5⟩
    · exact .inl h4
    · exact .inr ⟨g, cap, cur, rfl, Nat.le_trans hW h4, by rw [ko.block g (Array.getElem?_eq_some_iff.1 hg).1 (hv g (by simp [blk]))]; exact hg, h5⟩
  · obtain ⟨a, n, c, e1, e2, e3, e4⟩ := h3 j d hd
    exact ⟨a, n, c, e1, e2, e3, e4.onlyAt ko (fun x hx => hn x (getD_mem_flatten hx))⟩
theorem OutInv.blk_lo8 {E : TypeId} {W w : World} {v : Value} {l : List AtomD} {bss : List (List Nat)} (h : OutInv E W w v l bss) : ∀ b ∈ blk v, W.heap.size ≤ b ∧ b < w.heap.size := by
  obtain ⟨⟨cs, h1, _⟩, _⟩ := h
  intro b hb
  rcases h1.form with ⟨rfl, _⟩ | ⟨g, cap, rfl, _⟩
  · simp [blk] at hb
  · simp [blk] at hb; subst hb; exact h1.lt

/-- A list of facts built by append, in blocks from B on. -/
def OutF (B : Nat) (w : World) (v : Value) (l : List AtomD) (bss : List (List Nat)) : Prop := ∃ W, W.heap.size = B ∧ OutInv 59 W w v l bss
theorem OutF.only {B : Nat} {w w' : World} {v : Value} {l : List AtomD} {bss : List (List Nat)} {bs : List Nat} (h : OutF B w v l bss) (ko : OnlyAt bs w w') (hb : ∀ b ∈ bs, b < B) : OutF B w' v l bss := by
  obtain ⟨W, hW, h⟩ := h
  obtain ⟨W', e1, e2⟩ := virt8 w' B (by have := h.below.size; have := ko.size; omega)
  exact ⟨W', e1, h.rebase8 (by omega) e2 ko (fun b hm hn => by have := (h.blk_lo8 b hm).1; have := hb b hn; omega) (fun b hm hn => by have := (h.2.2 b hm).1; have := hb b hn; omega)⟩
theorem OutF.to {B : Nat} {w0 w : World} {v : Value} {l : List AtomD} {bss : List (List Nat)} (h : OutF B w v l bss) (hB : w0.heap.size ≤ B) (hb : Below w0.heap.size w0 w) : OutInv 59 w0 w v l bss := by
  obtain ⟨W, hW, h⟩ := h
  exact h.rebase8 (by omega) hb (OnlyAt.refl [] w) (fun b _ hm => by simp at hm) (fun b _ hm => by simp at hm)
theorem OutF.nil (w : World) : OutF w.heap.size w (.slice none 0 0) [] [] := ⟨w, rfl, OutInv.nil _ w w (Below.refl _ _)⟩
theorem OutF.blk_lo {B : Nat} {w : World} {v : Value} {l : List AtomD} {bss : List (List Nat)} (h : OutF B w v l bss) : ∀ b ∈ blk v, B ≤ b ∧ b < w.heap.size := by
  obtain ⟨W, hW, h⟩ := h
  rw [← hW]; exact h.blk_lo8

/-- The key of an atom; the atom of a key. -/
def pkV (a : AtomD) : Value := packed a.1 a.2.length a.2
def decK : Value → AtomD | .agg c => ((intOf (c.toList.getD 0 undef)), ((c.toList.drop 2).map intOf).take (intOf (c.toList.getD 1 undef)).toNat) | _ => (0, [])
theorem decK_pk {a : AtomD} (h : a.2.length ≤ 3) : decK (pkV a) = a := by
  obtain ⟨r, l⟩ := a
  match l, h with
  | [], _ => rfl
  | [x], _ => rfl
  | [x, y], _ => rfl
  | [x, y, z], _ => rfl
theorem pkV_key {a : AtomD} (hr : inI a.1) (h3 : a.2.length ≤ 3) (hi : ∀ x ∈ a.2, inI x) : ∃ kl, keyOf Try.prog 78 (pkV a) = some kl :=
  packKey hr (by unfold inI; omega) (inI_getD hi 0) (inI_getD hi 1) (inI_getD hi 2)
/-- The map's entries are the atoms so far. -/
def AtsOf (w : World) (l : List AtomD) (es : Array MapEntry) : Prop := ∃ ats : List (AtomD × Value), prs8 es = ats.map (fun p => (pkV p.1, p.2)) ∧ (∀ p ∈ ats, RdAtom w p.2 p.1) ∧ (ats.map (·.1)).Nodup ∧ ∀ a, a ∈ ats.map (·.1) ↔ a ∈ l
theorem AtsOf.nil (w : World) : AtsOf w [] #[] := ⟨[], rfl, (fun p hp => by simp at hp), List.Pairwise.nil, (fun a => by simp)⟩
theorem AtsOf.put {w : World} {l : List AtomD} {es es2 : Array MapEntry} {a : AtomD} {val : Value} (h : AtsOf w l es) (h3 : ∀ a ∈ l, a.2.length ≤ 3) (ha : a.2.length ≤ 3) (hv : RdAtom w val a)
    (hput : (∃ j v0, (prs8 es)[j]? = some (pkV a, v0) ∧ prs8 es2 = (prs8 es).set j (pkV a, val)) ∨ ((∀ x ∈ prs8 es, x.1 ≠ pkV a) ∧ prs8 es2 = prs8 es ++ [(pkV a, val)])) : AtsOf w (l ++ [a]) es2 := by
  obtain ⟨ats, h1, h2, hn, hm⟩ := h
  rcases hput with ⟨j, v0, g1, g2⟩ | ⟨g1, g2⟩
  · rw [h1, List.getElem?_map, Option.map_eq_some_iff] at g1
    obtain ⟨q, hq, e⟩ := g1
    obtain ⟨e1, e2⟩ := Prod.mk.inj e
    have hqm := List.mem_of_getElem? hq
    have hql : q.1 ∈ l := (hm q.1).1 (List.mem_map.2 ⟨q, hqm, rfl⟩)
    have e3 : q.1 = a := by have := congrArg decK e1; rwa [decK_pk (h3 _ hql), decK_pk ha] at this
    have hjl := (List.getElem?_eq_some_iff.1 hq).1
    have hmap : (ats.set j (a, val)).map (·.1) = ats.map (·.1) := by
      rw [List.map_set]
      refine List.ext_getElem (by simp) (fun i u v => ?_)
      rw [List.getElem_set]
      split
      · rename_i e; subst e; rw [List.getElem_map, (List.getElem?_eq_some_iff.1 hq).2, e3]
      · rfl
    refine ⟨ats.set j (a, val), by rw [g2, h1, List.map_set], fun p hp => ?_, by rw [hmap]; exact hn, fun x => ?_⟩
    · rcases List.mem_or_eq_of_mem_set hp with h | h
      · exact h2 p h
      · rw [h]; exact hv
    · rw [hmap, hm x, List.mem_append]
      constructor
      · exact .inl
      · rintro (h | h)
        · exact h
        · rw [List.mem_singleton.1 h, ← e3]; exact hql
  · refine ⟨ats ++ [(a, val)], by rw [g2, h1, List.map_append]; rfl, fun p hp => ?_, ?_, fun x => ?_⟩
    · rcases List.mem_append.1 hp with h | h
      · exact h2 p h
      · rw [List.mem_singleton.1 h]; exact hv
    · rw [List.map_append, List.nodup_append]
      refine ⟨hn, by simp, fun x hx y hy e => ?_⟩
      simp at hy
      obtain ⟨p, hp, rfl⟩ := List.mem_map.1 hx
      exact g1 (pkV p.1, p.2) (by rw [h1]; exact List.mem_map.2 ⟨p, hp, rfl⟩) (by rw [e, hy])
    · rw [List.map_append, List.mem_append, List.mem_append, hm x]; simp
theorem AtsOf.at {w : World} {l : List AtomD} {es : Array MapEntry} (h : AtsOf w l es) {e : MapEntry} (he : e ∈ es.toList) : ∃ a ∈ l, e.key = pkV a ∧ RdAtom w e.val a := by
  obtain ⟨ats, h1, h2, _, hm⟩ := h
  have : (e.key, e.val) ∈ prs8 es := List.mem_map.2 ⟨e, he, rfl⟩
  rw [h1] at this
  obtain ⟨p, hp, h⟩ := List.mem_map.1 this
  exact ⟨p.1, (hm p.1).1 (List.mem_map.2 ⟨p, hp, rfl⟩), (congrArg Prod.fst h).symm, by have e2 : p.2 = e.val := congrArg Prod.snd h; rw [← e2]; exact h2 p hp⟩
theorem AtsOf.len {w : World} {l : List AtomD} {es : Array MapEntry} (h : AtsOf w l es) : es.toList.length ≤ l.length := by
  obtain ⟨ats, h1, _, hn, hm⟩ := h
  have e : es.toList.length = (ats.map (·.1)).length := by have := congrArg List.length h1; simpa [prs8] using this
  rw [e]
  exact hn.length_le_of_subset (fun x hx => (hm x).1 hx)
/-- The facts in order are those of the frozen query. -/
theorem facts_fin {w : World} {l : List AtomD} {es : Array MapEntry} (h : AtsOf w l es) (ht : ∀ a ∈ l, termsB a.2 = true) {gone : List MapEntry} (hp : gone.Perm es.toList) {l' : List AtomD} (hl : l'.Perm (gone.map (fun e => fct8 (decK e.key)))) (hs : l'.Pairwise (fun a b => lessF b a = false)) : l' = frzTo l l.length := by
  obtain ⟨ats, h1, h2, hn, hm⟩ := h
  have e1 : es.toList.map (fun e => fct8 (decK e.key)) = (ats.map (·.1)).map fct8 := by
    have : es.toList.map (fun e => fct8 (decK e.key)) = (prs8 es).map (fun kv => fct8 (decK kv.1)) := by unfold prs8; rw [List.map_map]; rfl
    rw [this, h1, List.map_map, List.map_map]
    refine List.map_congr_left (fun p hp => ?_)
    show fct8 (decK (pkV p.1)) = fct8 p.1
    rw [decK_pk (terms_len3 (ht p.1 ((hm p.1).1 (List.mem_map.2 ⟨p, hp, rfl⟩))))]
  have hperm : l'.Perm ((ats.map (·.1)).map fct8) := hl.trans (by rw [← e1]; exact hp.map _)
  have hnd : ((ats.map (·.1)).map fct8).Nodup := by
    refine List.pairwise_map.2 (List.Pairwise.imp_of_mem (fun {a b} ha hb hne e => hne (fct8_inj (ht a ((hm a).1 ha)) (ht b ((hm b).1 hb)) e)) hn)
  obtain ⟨f1, f2, _⟩ := frzTo_ok l l.length (Nat.le_refl _)
  refine strictF_unique (strictF_of hs (hperm.nodup_iff.2 hnd)) f1.strict (fun x => ?_)
  rw [hperm.mem_iff, f2 x, List.take_length]
  constructor
  · intro hx
    obtain ⟨a, ha, e⟩ := List.mem_map.1 hx
    exact ⟨a, (hm a).1 ha, e⟩
  · rintro ⟨a, ha, e⟩
    exact List.mem_map.2 ⟨a, (hm a).2 ha, e⟩
theorem step_mapup8 {P : Program} {ops : Array Oper} {o : Oper} {a : Act} {w w' : World} {K : Act → World → Prop} {Q : Exit → Act → World → Prop} {F : Prop} {T : TypeId} {x ix y : Operand} (hgd : o.guard = none) (ho : o.op = .mapUpdate T x ix y) {m k u : Value} (hm : a.eval x = m) (hk : a.eval ix = k) (hu : a.eval y = u)
    (hr : (Instr.mapUpdate T m k u).run P w = .ok () w') (hK : K (a.put o.dst undef) w') : if Region.wanted o (yielded ops a.tmps) = true then Oper.wp P o a w K Q else F := by
  have hw : Region.wanted o (yielded ops a.tmps) = true := by simp [Region.wanted, hgd]
  rw [if_pos hw]; unfold Oper.wp
  have he : (execOp a.eval o).run P w = .ok .skip w' := by unfold execOp; simp only [ho, hm, hk, hu, Sem.run_bind, hr, Result.andThen_ok, Sem.run_pure]
  rw [he]; exact hK
end Go.Proofs.Ytcabgdaloffcdaa
