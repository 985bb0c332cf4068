/- A map by packed atoms, its entries raw: m[key] looked up, its entry, what is stored into it. -/
import Derived.WideKeyEntry
import Derived.WideKeyArr
import Derived.DeepKeys5
import Derived.Maps.OwnOps
import Derived.Maps.OwnSet
import Derived.Maps.OwnIn
import Derived.Test.YtnbljidjbknleaaGreatIcAll
import Derived.Test.YtnbljidjbknleaaGreatOwns
namespace Go.Proofs.YtnbljidjbknleaaGreat
open Go Go.WideElems Go.ChangeShapes Go.WideShapes Go.MapKept Go.ChangeMaps Go.RowKit
set_option linter.unusedVariables false

def prs9 (es : Array MapEntry) : List (Value × Value) := es.toList.map (fun x => (x.key, x.val))
/-- The keys are keys, all different, and the entries are stamped. -/
structure Keyed9 (P : Program) (k : TypeId) (es : Array MapEntry) (clock : Nat) : Prop where
  stamped : Stamped es clock
  keys : ∀ x ∈ es.toList, ∃ l, keyOf P k x.key = some l
theorem Keyed9.empty (P : Program) (k : TypeId) (clock : Nat) : Keyed9 P k #[] clock := ⟨stamped_empty clock, fun x hx => by simp at hx⟩
theorem modify9 {es : Array MapEntry} {j : Nat} {e0 : MapEntry} (f : MapEntry → MapEntry) (h : es.toList[j]? = some e0) : (es.modify j f).toList = es.toList.set j (f e0) := by
  rw [Array.toList_modify, modify_eq_set _ _ _ _ h]

section
variable {P : Program} {w : World} {t k e : TypeId} {b : Nat} {es : Array MapEntry} {clock : Nat}
theorem keyed9_push (F : Keyed9 P k es clock) {key v : Value} {kl : Lit} (hkey : keyOf P k key = some kl) (h2 : ∀ x ∈ es.toList, x.key ≠ key) : Keyed9 P k (es.push ⟨key, v, clock⟩) (clock + 1) :=
  ⟨stamped_push F.stamped h2, fun x hx => by
    rw [Array.toList_push] at hx
    rcases List.mem_append.1 hx with h | h
    · exact F.keys x h
    · rw [List.mem_singleton.1 h]; exact ⟨kl, hkey⟩⟩
theorem keyed9_val (F : Keyed9 P k es clock) {j : Nat} {e0 : MapEntry} (h : es.toList[j]? = some e0) (v : Value) : Keyed9 P k (es.modify j (fun e => { e with val := v })) clock :=
  ⟨stamped_modify F.stamped j _ (fun _ _ => rfl) (fun _ _ _ => rfl), fun x hx => by
    rw [modify9 _ h] at hx
    rcases List.mem_or_eq_of_mem_set hx with h1 | h1
    · exact F.keys x h1
    · rw [h1]; exact F.keys e0 (List.mem_of_getElem? h)⟩
theorem lookup9_there (K : Maps.Keyed P k) (ht : P.underlying t = some (.map k e)) (hb : w.heap[b]? = some (.map es clock)) (F : Keyed9 P k es clock) {key : Value} {kl : Lit} (hkey : keyOf P k key = some kl) {e0 : MapEntry} (h0 : e0 ∈ es.toList) (he : e0.key = key) :
    (Instr.lookup t (.map (some b)) key false).run P w = .ok e0.val w := by
  rcases K.find w hkey es.toList F.keys with ⟨h1, h2⟩ | ⟨j, e1, h1, h2, h3⟩
  · exact absurd he (h2 e0 h0)
  · have : e1 = e0 := by
      have hn := F.stamped.2.2
      obtain ⟨i, hi⟩ := List.mem_iff_getElem?.1 h0
      have a1 : (es.toList.map (·.key))[j]? = some key := by rw [List.getElem?_map, h2]; exact congrArg some h3
      have a2 : (es.toList.map (·.key))[i]? = some key := by rw [List.getElem?_map, hi]; exact congrArg some he
      obtain ⟨x1, y1⟩ := List.getElem?_eq_some_iff.1 a1
      obtain ⟨x2, y2⟩ := List.getElem?_eq_some_iff.1 a2
      have := (List.getElem_inj (h₀ := x1) (h₁ := x2) hn).1 (y1.trans y2.symm)
      subst this
      rw [hi] at h2
      exact (Option.some.inj h2).symm
    subst this
    simp [Instr.lookup, run_underlying ht, MapKept.run_getObj_map hb, K.check w _ hkey, h1, Result.andThen]
theorem lookup9_none (K : Maps.Keyed P k) (ht : P.underlying t = some (.map k e)) {z : Value} (hz : ∀ u : World, (zeroValue e).run P u = .ok z u) (hb : w.heap[b]? = some (.map es clock)) (F : Keyed9 P k es clock) {key : Value} {kl : Lit} (hkey : keyOf P k key = some kl) (hno : ∀ x ∈ es.toList, x.key ≠ key) :
    (Instr.lookup t (.map (some b)) key false).run P w = .ok z w := by
  rcases K.find w hkey es.toList F.keys with ⟨h1, h2⟩ | ⟨j, e1, h1, h2, h3⟩
  · simp [Instr.lookup, run_underlying ht, MapKept.run_getObj_map hb, K.check w _ hkey, h1, hz, Result.andThen]
  · exact absurd h3 (hno e1 (List.mem_of_getElem? h2))
/-- m[key]: what the lookup gives, ahead of the entry and behind it, the entry, and what is stored into it. -/
theorem incr9 (K : Maps.Keyed P k) (ht : P.underlying t = some (.map k e)) {z : Value} (hz : ∀ u : World, (zeroValue e).run P u = .ok z u) (F : Keyed9 P k es clock) {key : Value} {kl : Lit} (hkey : keyOf P k key = some kl) :
    ∃ (v0 : Value) (st : Nat) (es1 : Array MapEntry) (clock1 : Nat),
      (∀ w : World, w.heap[b]? = some (.map es clock) → (Instr.lookup t (.map (some b)) key false).run P w = .ok v0 w) ∧
      (∀ w : World, w.heap[b]? = some (.map es1 clock1) → (Instr.lookup t (.map (some b)) key false).run P w = .ok v0 w) ∧
      (∀ w : World, w.heap[b]? = some (.map es clock) → (Instr.mapEntry t (.map (some b)) key).run P w = .ok (.tuple #[v0, goInt st]) (setBlock w b (.map es1 clock1))) ∧
      (∀ val, ∃ es2, Keyed9 P k es2 clock1 ∧ (∀ w : World, w.heap[b]? = some (.map es1 clock1) → (Instr.entryStore t (.map (some b)) (goInt st) val).run P w = .ok () (setBlock w b (.map es2 clock1))) ∧
        ((∃ j, (prs9 es)[j]? = some (key, v0) ∧ prs9 es2 = (prs9 es).set j (key, val)) ∨ ((∀ x ∈ prs9 es, x.1 ≠ key) ∧ v0 = z ∧ prs9 es2 = prs9 es ++ [(key, val)]))) := by
  obtain ⟨s1, s2, _⟩ := F.stamped
  rcases K.find { (default : World) with heap := #[] } hkey es.toList F.keys with ⟨_, h2⟩ | ⟨j, e0, _, h2, h3⟩
  · have F1 := keyed9_push (v := z) F hkey h2
    have hfind : ∀ w : World, (Instr.findKey k key es.toList).run P w = .ok none w := fun w => by
      rcases K.find w hkey es.toList F.keys with ⟨h1, _⟩ | ⟨j, e1, _, h4, h5⟩
      · exact h1
      · exact absurd h5 (h2 e1 (List.mem_of_getElem? h4))
    refine ⟨z, clock, es.push ⟨key, z, clock⟩, clock + 1, fun w hb => lookup9_none K ht hz hb F hkey h2, fun w hb => lookup9_there K ht hb F1 hkey (e0 := ⟨key, z, clock⟩) (by simp) rfl, fun w hb => ?_, fun val => ⟨es.push ⟨key, val, clock⟩, keyed9_push F hkey h2, fun w hw2 => ?_, .inr ⟨fun x hx => ?_, rfl, by simp [prs9]⟩⟩⟩
    · simp [Instr.mapEntry, run_underlying ht, MapKept.run_getObj_map hb, K.check w false hkey, hfind, hz, MapKept.run_setObj_map _ hb, Result.andThen, setBlock]
    · have hidx : (es.push ⟨key, z, clock⟩).findIdx? (fun e => ((e.born : Nat) : Int) == ((clock : Nat) : Int)) = some es.size := by
        rw [findIdx_arr]
        exact findIdx_born (l := (es.push ⟨key, z, clock⟩).toList) (j := es.size) (e0 := ⟨key, z, clock⟩) F1.stamped.2.1 (by simp)
      have hmod : (es.push ⟨key, z, clock⟩).modify es.size (fun e => { e with val := val }) = es.push ⟨key, val, clock⟩ := by
        apply Array.ext'
        rw [Array.toList_modify, Array.toList_push, Array.toList_push, ← Array.length_toList, modify_last]
      simp [Instr.entryStore, MapKept.run_getObj_map hw2, asInt, asIntOf, goInt, hidx, hmod, MapKept.run_setObj_map _ hw2, Result.andThen, setBlock]
    · obtain ⟨y, hy, rfl⟩ := List.mem_map.1 hx
      exact h2 y hy
  · have hm0 : e0 ∈ es.toList := List.mem_of_getElem? h2
    have hj : es[j]? = some e0 := by simpa using h2
    have hfind : ∀ w : World, (Instr.findKey k key es.toList).run P w = .ok (some (j, e0.val)) w := fun w => by
      rcases K.find w hkey es.toList F.keys with ⟨_, h1⟩ | ⟨i, e1, h1, h4, h5⟩
      · exact absurd h3 (h1 e0 hm0)
      · have hn := F.stamped.2.2
        have a1 : (es.toList.map (·.key))[j]? = some key := by rw [List.getElem?_map, h2]; exact congrArg some h3
        have a2 : (es.toList.map (·.key))[i]? = some key := by rw [List.getElem?_map, h4]; exact congrArg some h5
        obtain ⟨x1, y1⟩ := List.getElem?_eq_some_iff.1 a1
        obtain ⟨x2, y2⟩ := List.getElem?_eq_some_iff.1 a2
        have := (List.getElem_inj (h₀ := x1) (h₁ := x2) hn).1 (y1.trans y2.symm)
        subst this
        rw [h2] at h4
        cases h4
        exact h1
    have hsame : es.modify j (fun e => { e with key := key }) = es := by
      apply Array.ext'
      rw [Array.toList_modify, modify_eq_set _ _ _ _ h2]
      have : ({ e0 with key := key } : MapEntry) = e0 := by rw [← h3]
      rw [this]
      exact set_self _ _ _ h2
    refine ⟨e0.val, e0.born, es, clock, fun w hb => lookup9_there K ht hb F hkey hm0 h3, fun w hb => lookup9_there K ht hb F hkey hm0 h3, fun w hb => ?_, fun val => ⟨es.modify j (fun e => { e with val := val }), keyed9_val F h2 val, fun w hw2 => ?_, .inl ⟨j, by rw [prs9, List.getElem?_map, h2, ← h3]; rfl, by rw [prs9, modify9 _ h2, List.map_set, ← h3]; rfl⟩⟩⟩
    · simp [Instr.mapEntry, run_underlying ht, MapKept.run_getObj_map hb, K.check w false hkey, hfind, hj, h3, K.stays w hkey, hsame, MapKept.run_setObj_map _ hb, Result.andThen, setBlock]
    · have hidx : es.findIdx? (fun e => ((e.born : Nat) : Int) == ((e0.born : Nat) : Int)) = some j := by
        rw [findIdx_arr]
        exact findIdx_born s2 h2
      simp [Instr.entryStore, MapKept.run_getObj_map hw2, asInt, asIntOf, goInt, hidx, MapKept.run_setObj_map _ hw2, Result.andThen, setBlock]
end
theorem laid9 : laidOutB Tryz.prog = true := by kernel_rfl
theorem packLaw9 : Maps.Keyed Tryz.prog 131 :=
  Maps.Keyed.of_law (deep_law_gate laid9 (of_decide_eq_true (by kernel_rfl)) (of_decide_eq_true (by kernel_rfl)) (by kernel_rfl) (by kernel_rfl))
theorem wf9 {n : Int} (h : inI n) : (Lit.int .i64 n).wf = true := by
  unfold inI at h
  have e1 : IntKind.i64.min = -9223372036854775808 := by decide
  have e2 : IntKind.i64.max = 9223372036854775807 := by decide
  simp [Lit.wf, e1, e2]
  omega
theorem packKey9 {r n x y z : Int} (hr : inI r) (hn : inI n) (hx : inI x) (hy : inI y) (hz : inI z) : ∃ kl, keyOf Tryz.prog 131 (.agg #[.int .i64 r, .int .i64 n, .int .i64 x, .int .i64 y, .int .i64 z]) = some kl := by
  have h1 : Tryz.prog.keyType 131 = true := by kernel_rfl
  have c1 : Tryz.prog.cellsOf 3 = 1 := by kernel_rfl
  have c3 : Tryz.prog.cellsOf 123 = 3 := by kernel_rfl
  have c5 : Tryz.prog.cellsOf 131 = 5 := by kernel_rfl
  have h2 : Value.formed Tryz.prog 131 (.agg #[.int .i64 r, .int .i64 n, .int .i64 x, .int .i64 y, .int .i64 z]) = true := by
    unfold Value.formed
    rw [Tryz.underlying131]
    rw [c5]; rfl
  obtain ⟨m, hm⟩ : ∃ m, Tryz.prog.types.size = m + 1 + 1 := ⟨Tryz.prog.types.size - 2, by kernel_rfl⟩
  have hl : ∀ (d : Nat) {n : Int}, inI n → Tryz.prog.keyLits (d + 1) 3 [.int .i64 n] = some [.int .i64 n] := fun d n h => by
    unfold Program.keyLits
    rw [Tryz.underlying3]
    simp [wf9 h]
  have h3 : ∀ d, Tryz.prog.keyLits (d + 1 + 1) 123 [.int .i64 x, .int .i64 y, .int .i64 z] = some [.int .i64 x, .int .i64 y, .int .i64 z] := fun d => by
    unfold Program.keyLits
    rw [Tryz.underlying123]
    simp [c1, c3, List.range, List.range.loop, hl d hx, hl d hy, hl d hz]
  have h5 : ∃ ls, Tryz.prog.keyLits (Tryz.prog.types.size + 1) 131 [.int .i64 r, .int .i64 n, .int .i64 x, .int .i64 y, .int .i64 z] = some ls := by
    rw [hm]
    unfold Program.keyLits
    rw [Tryz.underlying131]
    simp [c1, c3, c5, hl _ hr, hl _ hn, h3]
  obtain ⟨ls, h5⟩ := h5
  unfold keyOf
  rw [Tryz.underlying131]
  simp only [h1, h2, Bool.and_self, if_true]
  exact ⟨_, by show Option.map _ (Tryz.prog.keyLits _ _ [_, _, _, _, _]) = _; rw [h5]; rfl⟩

end Go.Proofs.YtnbljidjbknleaaGreat
