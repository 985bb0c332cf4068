/- Maps of chapter 8's program: a store into a map, keys that are packed atoms, the values of the terms of a query. -/
import Derived.WideKeyEntry
import Derived.WideKeyArr
import Derived.DeepKeys5
import Derived.Maps.OwnOps
import Derived.Maps.OwnSet
import Derived.Test.YtcabgdaloffcdaaM8
import Derived.Test.YtcabgdaloffcdaaIeq
import Derived.Test.YtcabgdaloffcdaaOwns
namespace Go.Proofs.Ytcabgdaloffcdaa
open Go Go.WideElems Go.ChangeShapes Go.WideShapes Go.MapKept Go.ChangeMaps Go.RowKit
set_option linter.unusedVariables false

def prs8 (es : Array MapEntry) : List (Value × Value) := es.toList.map (fun x => (x.key, x.val))
/-- The keys are keys, all different, and the entries are stamped. -/
structure Keyed8 (P : Program) (k : TypeId) (es : Array MapEntry) (clock : Nat) : Prop where
  stamped : Stamped es clock
  keys : ∀ x ∈ es.toList, ∃ l, keyOf P k x.key = some l
theorem Keyed8.empty (P : Program) (k : TypeId) (clock : Nat) : Keyed8 P k #[] clock := ⟨stamped_empty clock, fun x hx => by simp at hx⟩
theorem modify8 {es : Array MapEntry} {j : Nat} {e0 : MapEntry} (f : MapEntry → MapEntry) (h : es.toList[j]? = some e0) : (es.modify j f).toList = es.toList.set j (f e0) := by
  rw [Array.toList_modify, modify_eq_set _ _ _ _ h]
/-- m[key] = val. -/
theorem put_law {P : Program} {w : World} {t k e : TypeId} {b : Nat} {es : Array MapEntry} {clock : Nat} (K : Maps.Keyed P k) (ht : P.underlying t = some (.map k e)) (hb : w.heap[b]? = some (.map es clock)) (F : Keyed8 P k es clock) {key val : Value} {kl : Lit} (hkey : keyOf P k key = some kl) :
    ∃ es2 clock2, (Instr.mapUpdate t (.map (some b)) key val).run P w = .ok () (setBlock w b (.map es2 clock2)) ∧ Keyed8 P k es2 clock2 ∧
      ((∃ j v0, (prs8 es)[j]? = some (key, v0) ∧ prs8 es2 = (prs8 es).set j (key, val)) ∨ ((∀ x ∈ prs8 es, x.1 ≠ key) ∧ prs8 es2 = prs8 es ++ [(key, val)])) := by
  rcases K.find w hkey es.toList F.keys with ⟨h1, h2⟩ | ⟨j, e0, h1, h2, h3⟩
  · refine ⟨es.push ⟨key, val, clock⟩, clock + 1, ?_, ⟨stamped_push F.stamped h2, fun x hx => ?_⟩, .inr ⟨fun x hx => ?_, by simp [prs8]⟩⟩
    · simp [Instr.mapUpdate, run_underlying ht, MapKept.run_getObj_map hb, K.check w false hkey, h1, MapKept.run_setObj_map _ hb, Result.andThen, setBlock]
    · rw [Array.toList_push] at hx
      rcases List.mem_append.1 hx with h | h
      · exact F.keys x h
      · rw [List.mem_singleton.1 h]; exact ⟨kl, hkey⟩
    · obtain ⟨y, hy, rfl⟩ := List.mem_map.1 hx
      exact h2 y hy
  · have hj : es[j]? = some e0 := by simpa using h2
    have hkeyf : ∀ e', es[j]? = some e' → ({ e' with key := key, val := val } : MapEntry).key = e'.key := fun e' he' => by rw [hj] at he'; cases he'; exact h3.symm
    refine ⟨es.modify j (fun e' => { e' with key := key, val := val }), clock, ?_, ⟨stamped_modify F.stamped _ _ (fun _ _ => rfl) (fun e' _ he' => hkeyf e' he'), fun x hx => ?_⟩, .inl ⟨j, e0.val, by rw [prs8, List.getElem?_map, h2, ← h3]; rfl, by rw [prs8, modify8 _ h2, List.map_set]; rfl⟩⟩
    · simp [Instr.mapUpdate, run_underlying ht, MapKept.run_getObj_map hb, K.check w false hkey, h1, hj, h3, K.stays w hkey, MapKept.run_setObj_map _ hb, Result.andThen, setBlock]
    · rw [modify8 _ h2] at hx
      rcases List.mem_or_eq_of_mem_set hx with h | h
      · exact F.keys x h
      · rw [h]; exact ⟨kl, hkey⟩
theorem laid8 : laidOutB Try.prog = true := by kernel_rfl
theorem packLaw : Maps.Keyed Try.prog 78 :=
  Maps.Keyed.of_law (deep_law_gate laid8 (of_decide_eq_true (by kernel_rfl)) (of_decide_eq_true (by kernel_rfl)) (by kernel_rfl) (by kernel_rfl))
theorem wf8 {n : Int} (h : inI n) : (Lit.int .i64 n).wf = true := by
  unfold inI at h
  have e1 : IntKind.i64.min = -9223372036854775808 := by decide
  have e2 : IntKind.i64.max = 9223372036854775807 := by decide
  simp [Lit.wf, e1, e2]
  omega
theorem packKey {r n x y z : Int} (hr : inI r) (hn : inI n) (hx : inI x) (hy : inI y) (hz : inI z) : ∃ kl, keyOf Try.prog 78 (.agg #[.int .i64 r, .int .i64 n, .int .i64 x, .int .i64 y, .int .i64 z]) = some kl := by
  have h1 : Try.prog.keyType 78 = true := by kernel_rfl
  have c1 : Try.prog.cellsOf 3 = 1 := by kernel_rfl
  have c3 : Try.prog.cellsOf 76 = 3 := by kernel_rfl
  have c5 : Try.prog.cellsOf 78 = 5 := by kernel_rfl
  have h2 : Value.formed Try.prog 78 (.agg #[.int .i64 r, .int .i64 n, .int .i64 x, .int .i64 y, .int .i64 z]) = true := by
    unfold Value.formed
    rw [Try.underlying78]
    rw [c5]; rfl
  obtain ⟨m, hm⟩ : ∃ m, Try.prog.types.size = m + 1 + 1 := ⟨Try.prog.types.size - 2, by kernel_rfl⟩
  have hl : ∀ (d : Nat) {n : Int}, inI n → Try.prog.keyLits (d + 1) 3 [.int .i64 n] = some [.int .i64 n] := fun d n h => by
    unfold Program.keyLits
    rw [Try.underlying3]
    simp [wf8 h]
  have h3 : ∀ d, Try.prog.keyLits (d + 1 + 1) 76 [.int .i64 x, .int .i64 y, .int .i64 z] = some [.int .i64 x, .int .i64 y, .int .i64 z] := fun d => by
    unfold Program.keyLits
    rw [Try.underlying76]
    simp [c1, c3, List.range, List.range.loop, hl d hx, hl d hy, hl d hz]
  have h5 : ∃ ls, Try.prog.keyLits (Try.prog.types.size + 1) 78 [.int .i64 r, .int .i64 n, .int .i64 x, .int .i64 y, .int .i64 z] = some ls := by
    rw [hm]
    unfold Program.keyLits
    rw [Try.underlying78]
    simp [c1, c3, c5, hl _ hr, hl _ hn, h3]
  obtain ⟨ls, h5⟩ := h5
  unfold keyOf
  rw [Try.underlying78]
  simp only [h1, h2, Bool.and_self, if_true]
  exact ⟨_, by show Option.map _ (Try.prog.keyLits _ _ [_, _, _, _, _]) = _; rw [h5]; rfl⟩

/-- The values of the terms so far, as a map. -/
def fzD (ts : List Int) : DataW Unit := ts.foldl (fun D t => D.put (.int .i64 t) (.lit (.int .i64 (val8 t)))) (.map [])
theorem fzD_snoc (ts : List Int) (t : Int) : fzD (ts ++ [t]) = (fzD ts).put (.int .i64 t) (.lit (.int .i64 (val8 t))) := by unfold fzD; rw [List.foldl_append]; rfl
theorem intLaw8 : Maps.Keyed Try.prog 3 := Maps.int_keyed Try.underlying3
theorem fz_at (z : DataW Unit) (t : Int) : ∀ (ts : List Int) (D : DataW Unit), Maps.IsMap D → (t ∈ ts ∨ D.atKey (.int .i64 t) z = .lit (.int .i64 (val8 t))) → (ts.foldl (fun D t => D.put (.int .i64 t) (.lit (.int .i64 (val8 t)))) D).atKey (.int .i64 t) z = .lit (.int .i64 (val8 t))
  | [], D, _, h => h.elim (fun h => by cases h) id
  | x :: ts, D, hD, h => by
    rw [List.foldl_cons]
    refine fz_at z t ts _ (hD.put _ _) ?_
    by_cases hx : t = x
    · subst hx; exact .inr (Maps.atKey_put_same hD (by simp [WideAt.IsKeyLit]) _ _)
    · rcases h with h | h
      · rcases List.mem_cons.1 h with h | h
        · exact absurd h hx
        · exact .inl h
      · exact .inr (by rw [Maps.atKey_put_other (fun e => hx (by cases e; rfl))]; exact h)
theorem fzD_at {ts : List Int} {t : Int} (h : t ∈ ts) (z : DataW Unit) : (fzD ts).atKey (.int .i64 t) z = .lit (.int .i64 (val8 t)) := fz_at z t ts _ Maps.isMap_empty (.inl h)
/-- The block M is a map that has the values of these terms. -/
def FT (w : World) (M : Nat) (ts : List Int) : Prop := w.ownsMap Try.prog 3 (plainElem Try.prog 3) M ts.length (fzD ts)
theorem FT.onlyAt {w w' : World} {M : Nat} {ts : List Int} {bs : List Nat} (h : FT w M ts) (ko : OnlyAt bs w w') (hn : M ∉ bs) : FT w' M ts := by
  obtain ⟨es, clock, hb, F, hs, hD⟩ := h
  exact ⟨es, clock, by rw [ko.block M (Array.getElem?_eq_some_iff.1 hb).1 hn]; exact hb, F, hs, hD⟩
theorem FT.below {w w' : World} {M : Nat} {ts : List Int} (h : FT w M ts) (hb : Below w.heap.size w w') : FT w' M ts := h.onlyAt (OnlyAt.ofBelow [] hb) (by simp)
end Go.Proofs.Ytcabgdaloffcdaa
