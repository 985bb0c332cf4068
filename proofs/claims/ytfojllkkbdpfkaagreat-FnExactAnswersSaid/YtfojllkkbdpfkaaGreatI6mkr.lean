/- Merged of I6map, I6key, I6rng. -/
import Derived.WideKeyEntry
import Derived.WideKeyArr
import Derived.Test.YtfojllkkbdpfkaaGreatI6all
import Derived.Test.YtfojllkkbdpfkaaGreatBase
import Derived.Maps.OwnIn
/-! I6map -/
namespace Go.Proofs.YtfojllkkbdpfkaaGreat
open Go Go.WideElems Go.ChangeShapes Go.WideShapes Go.MapKept Go.ChangeMaps
open Go.WideMaps (KeyLaw)
set_option linter.unusedVariables false

def prs (es : Array MapEntry) : List (Value × Value) := es.toList.map (fun x => (x.key, x.val))
/-- The keys are keys, all different, and the entries are stamped. -/
structure Keyed (P : Program) (k : TypeId) (es : Array MapEntry) (clock : Nat) : Prop where
  stamped : Stamped es clock
  keys : ∀ x ∈ es.toList, ∃ l, keyOf P k x.key = some l
theorem Keyed.empty (P : Program) (k : TypeId) (clock : Nat) : Keyed P k #[] clock := ⟨stamped_empty clock, fun x hx => by simp at hx⟩
theorem modify_at {es : Array MapEntry} {j : Nat} {e0 : MapEntry} (f : MapEntry → MapEntry) (h : es.toList[j]? = some e0) : (es.modify j f).toList = es.toList.set j (f e0) := by
  rw [Array.toList_modify, modify_eq_set _ _ _ _ h]

section
variable {P : Program} {w : World} {t k e : TypeId} {b : Nat} {es : Array MapEntry} {clock : Nat}
theorem keyed_push (F : Keyed P k es clock) {key v : Value} {kl : Lit} (hkey : keyOf P k key = some kl) (h2 : ∀ x ∈ es.toList, x.key ≠ key) : Keyed P k (es.push ⟨key, v, clock⟩) (clock + 1) :=
  ⟨stamped_push F.stamped h2, fun x hx => by
    rw [Array.toList_push] at hx
    rcases List.mem_append.1 hx with h | h
    · exact F.keys x h
    · rw [List.mem_singleton.1 h]; exact ⟨kl, hkey⟩⟩
theorem keyed_val (F : Keyed P k es clock) {j : Nat} {e0 : MapEntry} (h : es.toList[j]? = some e0) (v : Value) : Keyed P k (es.modify j (fun e => { e with val := v })) clock :=
  ⟨stamped_modify F.stamped j _ (fun _ _ => rfl) (fun _ _ _ => rfl), fun x hx => by
    rw [modify_at _ h] at hx
    rcases List.mem_or_eq_of_mem_set hx with h1 | h1
    · exact F.keys x h1
    · rw [h1]; exact F.keys e0 (List.mem_of_getElem? h)⟩
theorem lookup_there (K : KeyLaw P k) (ht : P.underlying t = some (.map k e)) (hb : w.heap[b]? = some (.map es clock)) (F : Keyed P k es clock) {key : Value} {kl : Lit} (hkey : keyOf P k key = some kl) {e0 : MapEntry} (h0 : e0 ∈ es.toList) (he : e0.key = key) :
    (Instr.lookup t (.map (some b)) key false).run P w = .ok e0.val w := by
  rcases K.find w hkey es.toList F.keys with ⟨h1, h2⟩ | ⟨j, e1, h1, h2, h3⟩
  · exact absurd he (h2 e0 h0)
  · have : e1 = e0 := by
      have hn := F.stamped.2.2
      obtain ⟨i, hi⟩ := List.mem_iff_getElem?.1 h0
      have a1 : (es.toList.map (·.key))[j]? = some key := by rw [List.getElem?_map, h2]; exact congrArg some h3
      have a2 : (es.toList.map (·.key))[i]? = some key := by rw [List.getElem?_map, hi]; exact congrArg some he
      obtain ⟨x1, y1⟩ := List.getElem?_eq_some_iff.1 a1
      obtain ⟨x2, y2⟩ := List.getElem?_eq_some_iff.1 a2
      have := (List.getElem_inj (h₀ := x1) (h₁ := x2) hn).1 (y1.trans y2.symm)
      subst this
      rw [hi] at h2
      exact (Option.some.inj h2).symm
    subst this
    simp [Instr.lookup, run_underlying ht, MapKept.run_getObj_map hb, K.check w _ hkey, h1, Result.andThen]
theorem lookup_none (K : KeyLaw P k) (ht : P.underlying t = some (.map k e)) {z : Value} (hz : ∀ u : World, (zeroValue e).run P u = .ok z u) (hb : w.heap[b]? = some (.map es clock)) (F : Keyed P k es clock) {key : Value} {kl : Lit} (hkey : keyOf P k key = some kl) (hno : ∀ x ∈ es.toList, x.key ≠ key) :
    (Instr.lookup t (.map (some b)) key false).run P w = .ok z w := by
  rcases K.find w hkey es.toList F.keys with ⟨h1, h2⟩ | ⟨j, e1, h1, h2, h3⟩
  · simp [Instr.lookup, run_underlying ht, MapKept.run_getObj_map hb, K.check w _ hkey, h1, hz, Result.andThen]
  · exact absurd h3 (hno e1 (List.mem_of_getElem? h2))
/-- m[key]: what the lookup gives, ahead of the entry and behind it, the entry, and what is stored into it. -/
theorem incr_law (K : KeyLaw P k) (ht : P.underlying t = some (.map k e)) {z : Value} (hz : ∀ u : World, (zeroValue e).run P u = .ok z u) (F : Keyed P k es clock) {key : Value} {kl : Lit} (hkey : keyOf P k key = some kl) :
    ∃ (v0 : Value) (st : Nat) (es1 : Array MapEntry) (clock1 : Nat),
      (∀ w : World, w.heap[b]? = some (.map es clock) → (Instr.lookup t (.map (some b)) key false).run P w = .ok v0 w) ∧
      (∀ w : World, w.heap[b]? = some (.map es1 clock1) → (Instr.lookup t (.map (some b)) key false).run P w = .ok v0 w) ∧
      (∀ w : World, w.heap[b]? = some (.map es clock) → (Instr.mapEntry t (.map (some b)) key).run P w = .ok (.tuple #[v0, goInt st]) (setBlock w b (.map es1 clock1))) ∧
      (∀ val, ∃ es2, Keyed P k es2 clock1 ∧ (∀ w : World, w.heap[b]? = some (.map es1 clock1) → (Instr.entryStore t (.map (some b)) (goInt st) val).run P w = .ok () (setBlock w b (.map es2 clock1))) ∧
        ((∃ j, (prs es)[j]? = some (key, v0) ∧ prs es2 = (prs es).set j (key, val)) ∨ ((∀ x ∈ prs es, x.1 ≠ key) ∧ v0 = z ∧ prs es2 = prs es ++ [(key, val)]))) := by
  obtain ⟨s1, s2, _⟩ := F.stamped
  rcases K.find { (default : World) with heap := #[] } hkey es.toList F.keys with ⟨_, h2⟩ | ⟨j, e0, _, h2, h3⟩
  · have F1 := keyed_push (v := z) F hkey h2
    have hfind : ∀ w : World, (Instr.findKey k key es.toList).run P w = .ok none w := fun w => by
      rcases K.find w hkey es.toList F.keys with ⟨h1, _⟩ | ⟨j, e1, _, h4, h5⟩
      · exact h1
      · exact absurd h5 (h2 e1 (List.mem_of_getElem? h4))
    refine ⟨z, clock, es.push ⟨key, z, clock⟩, clock + 1, fun w hb => lookup_none K ht hz hb F hkey h2, fun w hb => lookup_there K ht hb F1 hkey (e0 := ⟨key, z, clock⟩) (by simp) rfl, fun w hb => ?_, fun val => ⟨es.push ⟨key, val, clock⟩, keyed_push F hkey h2, fun w hw2 => ?_, .inr ⟨fun x hx => ?_, rfl, by simp [prs]⟩⟩⟩
    · simp [Instr.mapEntry, run_underlying ht, MapKept.run_getObj_map hb, K.check w false hkey, hfind, hz, MapKept.run_setObj_map _ hb, Result.andThen, setBlock]
    · have hidx : (es.push ⟨key, z, clock⟩).findIdx? (fun e => ((e.born : Nat) : Int) == ((clock : Nat) : Int)) = some es.size := by
        rw [findIdx_arr]
        exact findIdx_born (l := (es.push ⟨key, z, clock⟩).toList) (j := es.size) (e0 := ⟨key, z, clock⟩) F1.stamped.2.1 (by simp)
      have hmod : (es.push ⟨key, z, clock⟩).modify es.size (fun e => { e with val := val }) = es.push ⟨key, val, clock⟩ := by
        apply Array.ext'
        rw [Array.toList_modify, Array.toList_push, Array.toList_push, ← Array.length_toList, modify_last]
      simp [Instr.entryStore, MapKept.run_getObj_map hw2, asInt, asIntOf, goInt, hidx, hmod, MapKept.run_setObj_map _ hw2, Result.andThen, setBlock]
    · obtain ⟨y, hy, rfl⟩ := List.mem_map.1 hx
      exact h2 y hy
  · have hm0 : e0 ∈ es.toList := List.mem_of_getElem? h2
    have hj : es[j]? = some e0 := by simpa using h2
    have hfind : ∀ w : World, (Instr.findKey k key es.toList).run P w = .ok (some (j, e0.val)) w := fun w => by
      rcases K.find w hkey es.toList F.keys with ⟨_, h1⟩ | ⟨i, e1, h1, h4, h5⟩
      · exact absurd h3 (h1 e0 hm0)
      · have hn := F.stamped.2.2
        have a1 : (es.toList.map (·.key))[j]? = some key := by rw [List.getElem?_map, h2]; exact congrArg some h3
        have a2 : (es.toList.map (·.key))[i]? = some key := by rw [List.getElem?_map, h4]; exact congrArg some h5
        obtain ⟨x1, y1⟩ := List.getElem?_eq_some_iff.1 a1
        obtain ⟨x2, y2⟩ := List.getElem?_eq_some_iff.1 a2
        have := (List.getElem_inj (h₀ := x1) (h₁ := x2) hn).1 (y1.trans y2.symm)
        subst this
        rw [h2] at h4
        cases h4
        exact h1
    have hsame : es.modify j (fun e => { e with key := key }) = es := by
      apply Array.ext'
      rw [Array.toList_modify, modify_eq_set _ _ _ _ h2]
      have : ({ e0 with key := key } : MapEntry) = e0 := by rw [← h3]
      rw [this]
      exact set_self _ _ _ h2
    refine ⟨e0.val, e0.born, es, clock, fun w hb => lookup_there K ht hb F hkey hm0 h3, fun w hb => lookup_there K ht hb F hkey hm0 h3, fun w hb => ?_, fun val => ⟨es.modify j (fun e => { e with val := val }), keyed_val F h2 val, fun w hw2 => ?_, .inl ⟨j, by rw [prs, List.getElem?_map, h2, ← h3]; rfl, by rw [prs, modify_at _ h2, List.map_set, ← h3]; rfl⟩⟩⟩
    · simp [Instr.mapEntry, run_underlying ht, MapKept.run_getObj_map hb, K.check w false hkey, hfind, hj, h3, K.stays w hkey, hsame, MapKept.run_setObj_map _ hb, Result.andThen, setBlock]
    · have hidx : es.findIdx? (fun e => ((e.born : Nat) : Int) == ((e0.born : Nat) : Int)) = some j := by
        rw [findIdx_arr]
        exact findIdx_born s2 h2
      simp [Instr.entryStore, MapKept.run_getObj_map hw2, asInt, asIntOf, goInt, hidx, MapKept.run_setObj_map _ hw2, Result.andThen, setBlock]
end
end Go.Proofs.YtfojllkkbdpfkaaGreat

/-! I6key -/
namespace Go.Proofs.YtfojllkkbdpfkaaGreat
open Go Go.Sort Go.RowKit Go.WideShapes
open Go.WideMaps (KeyLaw ArrKey)
set_option linter.unusedVariables false
theorem arrKey3 : ArrKey Tryz.prog 100 3 3 := ⟨Tryz.underlying100, by kernel_rfl, by kernel_rfl, by kernel_rfl⟩
theorem key3 {x y z : Int} (hx : inI x) (hy : inI y) (hz : inI z) : ∃ kl, keyOf Tryz.prog 100 (.agg #[.int .i64 x, .int .i64 y, .int .i64 z]) = some kl := by
  have h1 : Tryz.prog.keyType 100 = true := by kernel_rfl
  have h2 : Value.formed Tryz.prog 100 (.agg #[.int .i64 x, .int .i64 y, .int .i64 z]) = true := by
    unfold Value.formed
    rw [Tryz.underlying100]
    have : Tryz.prog.cellsOf 100 = 3 := by kernel_rfl
    rw [this]; rfl
  obtain ⟨m, hm⟩ : ∃ m, Tryz.prog.types.size = m + 1 := ⟨Tryz.prog.types.size - 1, by kernel_rfl⟩
  have hw : ∀ {n : Int}, inI n → (Lit.int .i64 n).wf = true := fun h => by
    unfold inI at h
    have e1 : IntKind.i64.min = -9223372036854775808 := by decide
    have e2 : IntKind.i64.max = 9223372036854775807 := by decide
    simp [Lit.wf, e1, e2]
    omega
  have hl : ∀ (d : Nat) {n : Int}, inI n → Tryz.prog.keyLits (d + 1) 3 [.int .i64 n] = some [.int .i64 n] := fun d n h => by
    unfold Program.keyLits
    rw [Tryz.underlying3]
    simp [hw h]
  have c1 : Tryz.prog.cellsOf 3 = 1 := by kernel_rfl
  have c3 : Tryz.prog.cellsOf 100 = 3 := by kernel_rfl
  have h3 : Tryz.prog.keyLits (Tryz.prog.types.size + 1) 100 [.int .i64 x, .int .i64 y, .int .i64 z] = some [.int .i64 x, .int .i64 y, .int .i64 z] := by
    rw [hm]
    unfold Program.keyLits
    rw [Tryz.underlying100]
    simp [c1, c3, List.range, List.range.loop, hl m hx, hl m hy, hl m hz]
  unfold keyOf
  rw [Tryz.underlying100]
  simp only [h1, h2, Bool.and_self, if_true]
  exact ⟨_, by show Option.map _ (Tryz.prog.keyLits _ _ [_, _, _]) = _; rw [h3]; rfl⟩
end Go.Proofs.YtfojllkkbdpfkaaGreat

/-! I6rng -/
namespace Go.Proofs.YtfojllkkbdpfkaaGreat
open Go Go.RowKit
open Go.ChangeMaps (setBlock)
set_option linter.unusedVariables false

/-- Under way: the entries 'gone' came already, in this order. -/
def Walk (P : Program) (k : TypeId) (W : World) (M r : Nat) (es : Array MapEntry) (clock : Nat) (gone : List MapEntry) : Prop :=
  W.heap[M]? = some (.map es clock) ∧ Keyed P k es clock ∧ (∃ seen, W.heap[r]? = some (.mapIter (some M) clock seen clock) ∧ seen.toList = gone.map (·.born)) ∧ (gone.map (·.born)).Nodup ∧ ∀ e ∈ gone, e ∈ es.toList
theorem Walk.grow {P : Program} {k : TypeId} {W W' : World} {M r : Nat} {es : Array MapEntry} {clock : Nat} {gone : List MapEntry} (h : Walk P k W M r es clock gone) (hm : W'.heap[M]? = W.heap[M]?) (hr : W'.heap[r]? = W.heap[r]?) : Walk P k W' M r es clock gone := by
  obtain ⟨h1, h2, ⟨seen, h3, h4⟩, h5, h6⟩ := h
  exact ⟨hm.trans h1, h2, ⟨seen, hr.trans h3, h4⟩, h5, h6⟩
theorem perm_of_gone {es : List MapEntry} {gone : List MapEntry} (hn : (es.map (·.born)).Nodup) (hg : (gone.map (·.born)).Nodup) (hm : ∀ e ∈ gone, e ∈ es) (hall : ∀ e ∈ es, e.born ∈ gone.map (·.born)) : gone.Perm es := by
  refine (List.perm_ext_iff_of_nodup (List.Pairwise.of_map _ (fun a b h e => h (by rw [e])) hg) (List.Pairwise.of_map _ (fun a b h e => h (by rw [e])) hn)).2 (fun e => ⟨hm e, fun he => ?_⟩)
  obtain ⟨g, hgm, hb⟩ := List.mem_map.1 (hall e he)
  obtain ⟨i, hi⟩ := List.mem_iff_getElem?.1 he
  obtain ⟨j, hj⟩ := List.mem_iff_getElem?.1 (hm g hgm)
  obtain ⟨x1, y1⟩ := List.getElem?_eq_some_iff.1 hi
  obtain ⟨x2, y2⟩ := List.getElem?_eq_some_iff.1 hj
  have := (List.getElem_inj (h₀ := by simpa using x1) (h₁ := by simpa using x2) (xs := es.map (·.born)) (i := i) (j := j) hn).1 (by rw [List.getElem_map, List.getElem_map, y1, y2, hb])
  subst this
  rw [y1] at y2; rw [y2]; exact hgm
theorem leftOf_done {es : Array MapEntry} {seen : Array Nat} (h : (Go.leftOf es seen).size = 0) : ∀ e ∈ es.toList, e.born ∈ seen.toList := by
  intro e he
  have h1 : Go.leftOf es seen = #[] := Array.eq_empty_of_size_eq_zero h
  unfold Go.leftOf at h1
  rw [Array.filter_eq_empty_iff] at h1
  have := h1 e (by simpa using he)
  simpa using this
theorem leftOf_mem {es : Array MapEntry} {seen : Array Nat} {e : MapEntry} (h : e ∈ (Go.leftOf es seen).toList) : e ∈ es.toList ∧ e.born ∉ seen.toList := by
  unfold Go.leftOf at h
  simp at h
  exact ⟨by simpa using h.1, by simpa using h.2⟩
theorem Walk.entry {P : Program} {k : TypeId} {W : World} {M r : Nat} {es : Array MapEntry} {clock : Nat} {gone : List MapEntry} {e : MapEntry} (h : Walk P k W M r es clock (gone ++ [e])) :
    (Instr.entry (.pointer (some ⟨r, 0, none⟩))).run P W = .ok (.tuple #[e.key, e.val]) W := by
  obtain ⟨h1, h2, ⟨seen, h3, h4⟩, h5, h6⟩ := h
  obtain ⟨s0, hs0⟩ : ∃ s0 : Array Nat, seen = s0.push e.born := by
    refine ⟨(gone.map (·.born)).toArray, Array.toList_inj.1 ?_⟩
    rw [h4]; simp
  subst hs0
  exact run_entry_at W r M clock s0 es clock e h3 h1 (h6 e (by simp)) h2.stamped.2.1

section
variable {P : Program} (w : World) {ops : Array Oper} {rest : List Oper} {o : Oper} {a : Act} {Q : Exit → Act → World → Prop}
theorem wpList_range_at (hg : o.guard = none) (m : Operand) (t k e : TypeId) (hop : o.op = Op.range t m) (ht : P.underlying t = some (.map k e)) (M : Nat) (es : Array MapEntry) (clock : Nat)
    (hm : a.eval m = .map (some M)) (hb : w.heap[M]? = some (.map es clock)) (hF : Keyed P k es clock)
    (hK : ∀ w', Walk P k w' M w.heap.size es clock [] → Below w.heap.size w w' → w'.heap.size = w.heap.size + 1 → wpList P ops Q rest (a.put o.dst (.pointer (some ⟨w.heap.size, 0, none⟩))) w') :
    wpList P ops Q (o :: rest) a w := by
  refine wpList_plain hg fun K' hK' => ?_
  have hrun := run_range_map w t k e M es clock ht hb
  unfold Oper.wp
  simp [execOp, hop, hm, hrun, Result.andThen]
  exact hK' _ _ (hK _ ⟨((below_alloc w _).block _ (Array.getElem?_eq_some_iff.1 hb).1).trans hb, hF, ⟨#[], heap_alloc_new w _, rfl⟩, List.Pairwise.nil, fun e he => by cases he⟩ (below_alloc w _) (by simp))
theorem wpListIn_range_at {F : Fence} {nF : Nat} (hg : o.guard = none) (m : Operand) (t k e : TypeId) (hop : o.op = Op.range t m) (ht : P.underlying t = some (.map k e)) (M : Nat) (es : Array MapEntry) (clock : Nat)
    (hm : a.eval m = .map (some M)) (hb : w.heap[M]? = some (.map es clock)) (hF : Keyed P k es clock)
    (hK : ∀ w', Walk P k w' M w.heap.size es clock [] → Below w.heap.size w w' → w'.heap.size = w.heap.size + 1 → wpListIn F nF P ops Q rest (a.put o.dst (.pointer (some ⟨w.heap.size, 0, none⟩))) w') :
    wpListIn F nF P ops Q (o :: rest) a w := by
  refine wpListIn_plain hg fun K' hK' => ?_
  have hrun := run_range_map w t k e M es clock ht hb
  unfold Oper.wpIn
  refine ⟨by simp [Oper.about, hop], ?_⟩
  rw [Oper.semAt_plain F _ _ (by rw [hop]; intro c hc'; cases hc')]
  simp [execOp, hop, hm, hrun, Result.andThen]
  exact hK' _ _ (hK _ ⟨((below_alloc w _).block _ (Array.getElem?_eq_some_iff.1 hb).1).trans hb, hF, ⟨#[], heap_alloc_new w _, rfl⟩, List.Pairwise.nil, fun e he => by cases he⟩ (below_alloc w _) (by simp))
theorem wpList_next_at (hg : o.guard = none) (it : Operand) (hop : o.op = Op.next it false) (k : TypeId) (M r : Nat) (es : Array MapEntry) (clock : Nat) (gone : List MapEntry)
    (hit : a.eval it = .pointer (some ⟨r, 0, none⟩)) (hne : M ≠ r) (h : Walk P k w M r es clock gone)
    (hDone : gone.Perm es.toList → wpList P ops Q rest (a.put o.dst (.tuple #[.bool false])) w)
    (hMore : ∀ (e : MapEntry) (w' : World), e ∈ es.toList → gone.length < es.toList.length → Walk P k w' M r es clock (gone ++ [e]) → OnlyAt [r] w w' → wpList P ops Q rest (a.put o.dst (.tuple #[.bool true, e.key, e.val])) w') :
    wpList P ops Q (o :: rest) a w := by
  obtain ⟨h1, h2, ⟨seen, h3, h4⟩, h5, h6⟩ := h
  refine wpList_plain hg fun K' hK' => ?_
  unfold Oper.wp
  rcases run_next_at (P := P) w o.type r M clock clock seen es clock h3 h1 h2.stamped.1 (Nat.le_refl _) with ⟨h0, hrun⟩ | ⟨e, he, w1, hw1, hrun⟩
  · simp [execOp, hop, hit, hrun, Result.andThen]
    exact hK' _ _ (hDone (perm_of_gone h2.stamped.2.1 h5 h6 (fun e he => by rw [← h4]; exact leftOf_done h0 e he)))
  · simp [execOp, hop, hit, hrun, Result.andThen]
    obtain ⟨he1, he2⟩ := leftOf_mem he
    have hw : w1.heap = w.heap ∧ w1.os = w.os ∧ w1.tape = w.tape ∧ w1.output = w.output := by
      rcases hw1 with rfl | rfl <;> exact ⟨rfl, rfl, rfl, rfl⟩
    obtain ⟨e1, e2, e3, e4⟩ := hw
    have hon : OnlyAt [r] w (setBlock w1 r (.mapIter (some M) clock (seen.push e.born) clock)) :=
      ⟨e2, e3, e4, by simp [setBlock, e1], fun j _ hn => by simp [setBlock, e1, show ¬ r = j from fun e => hn (by simp [e])]⟩
    rw [h4] at he2
    have hnd : ((gone ++ [e]).map (·.born)).Nodup := by
      rw [List.map_append, List.nodup_append]
      exact ⟨h5, by simp, fun x hx y hy e => by simp at hy; subst hy; subst e; exact he2 hx⟩
    have hsub : ∀ x ∈ gone ++ [e], x ∈ es.toList := fun x hx => by
      rcases List.mem_append.1 hx with h | h
      · exact h6 x h
      · rw [List.mem_singleton.1 h]; exact he1
    refine hK' _ _ (hMore e _ he1 ?_ ⟨(hon.block M (Array.getElem?_eq_some_iff.1 h1).1 (by simpa using hne)).trans h1, h2, ⟨seen.push e.born, ?_, by simp [h4]⟩, hnd, hsub⟩ hon)
    · have := List.Nodup.length_le_of_subset hnd (l₂ := es.toList.map (·.born)) (fun x hx => by
        obtain ⟨y, hy, rfl⟩ := List.mem_map.1 hx
        exact List.mem_map.2 ⟨y, hsub y hy, rfl⟩)
      simp at this
      simp; omega
    · simp [setBlock, e1, (Array.getElem?_eq_some_iff.1 h3).1]
end
end Go.Proofs.YtfojllkkbdpfkaaGreat
