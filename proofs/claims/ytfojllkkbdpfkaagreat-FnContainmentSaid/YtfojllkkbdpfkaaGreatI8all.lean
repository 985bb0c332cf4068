/- Merged of I8mp, I8vl, I8sh, I8srt, I8wk, I8fa, I8fr. -/
import Derived.WideKeyEntry
import Derived.WideKeyArr
import Derived.DeepKeys5
import Derived.Maps.OwnOps
import Derived.Maps.OwnSet
import Derived.Test.YtfojllkkbdpfkaaGreatM8
import Derived.Test.YtfojllkkbdpfkaaGreatIcAll
import Derived.Test.YtfojllkkbdpfkaaGreatBase
import Derived.Test.YtfojllkkbdpfkaaGreatU8all
import Derived.Test.YtfojllkkbdpfkaaGreatIrAll
import Derived.Test.YtfojllkkbdpfkaaGreatShelf
import Derived.Shelf.SlSortCmp.NoneTotal
import Derived.Test.YtfojllkkbdpfkaaGreatI5fd
import Derived.Test.YtfojllkkbdpfkaaGreatI5math
import Derived.Test.YtfojllkkbdpfkaaGreatAtomK
import Derived.Lib.SliceRun
import Derived.Shelf.SlSortCmp.WholeK
import Derived.Maps.OwnIn
import Derived.Test.YtfojllkkbdpfkaaGreatSquery
import Derived.Deep.RegionLaw
import Derived.Test.YtfojllkkbdpfkaaGreatS8fr
/-! I8mp -/
namespace Go.Proofs.YtfojllkkbdpfkaaGreat
open Go Go.WideElems Go.ChangeShapes Go.WideShapes Go.MapKept Go.ChangeMaps Go.RowKit
set_option linter.unusedVariables false

def prs8 (es : Array MapEntry) : List (Value × Value) := es.toList.map (fun x => (x.key, x.val))
/-- The keys are keys, all different, and the entries are stamped. -/
structure Keyed8 (P : Program) (k : TypeId) (es : Array MapEntry) (clock : Nat) : Prop where
  stamped : Stamped es clock
  keys : ∀ x ∈ es.toList, ∃ l, keyOf P k x.key = some l
theorem Keyed8.empty (P : Program) (k : TypeId) (clock : Nat) : Keyed8 P k #[] clock := ⟨stamped_empty clock, fun x hx => by simp at hx⟩
theorem modify8 {es : Array MapEntry} {j : Nat} {e0 : MapEntry} (f : MapEntry → MapEntry) (h : es.toList[j]? = some e0) : (es.modify j f).toList = es.toList.set j (f e0) := by
  rw [Array.toList_modify, modify_eq_set _ _ _ _ h]
/-- m[key] = val. -/
theorem put_law {P : Program} {w : World} {t k e : TypeId} {b : Nat} {es : Array MapEntry} {clock : Nat} (K : Maps.Keyed P k) (ht : P.underlying t = some (.map k e)) (hb : w.heap[b]? = some (.map es clock)) (F : Keyed8 P k es clock) {key val : Value} {kl : Lit} (hkey : keyOf P k key = some kl) :
    ∃ es2 clock2, (Instr.mapUpdate t (.map (some b)) key val).run P w = .ok () (setBlock w b (.map es2 clock2)) ∧ Keyed8 P k es2 clock2 ∧
      ((∃ j v0, (prs8 es)[j]? = some (key, v0) ∧ prs8 es2 = (prs8 es).set j (key, val)) ∨ ((∀ x ∈ prs8 es, x.1 ≠ key) ∧ prs8 es2 = prs8 es ++ [(key, val)])) := by
  rcases K.find w hkey es.toList F.keys with ⟨h1, h2⟩ | ⟨j, e0, h1, h2, h3⟩
  · refine ⟨es.push ⟨key, val, clock⟩, clock + 1, ?_, ⟨stamped_push F.stamped h2, fun x hx => ?_⟩, .inr ⟨fun x hx => ?_, by simp [prs8]⟩⟩
    · simp [Instr.mapUpdate, run_underlying ht, MapKept.run_getObj_map hb, K.check w false hkey, h1, MapKept.run_setObj_map _ hb, Result.andThen, setBlock]
    · rw [Array.toList_push] at hx
      rcases List.mem_append.1 hx with h | h
      · exact F.keys x h
      · rw [List.mem_singleton.1 h]; exact ⟨kl, hkey⟩
    · obtain ⟨y, hy, rfl⟩ := List.mem_map.1 hx
      exact h2 y hy
  · have hj : es[j]? = some e0 := by simpa using h2
    have hkeyf : ∀ e', es[j]? = some e' → ({ e' with key := key, val := val } : MapEntry).key = e'.key := fun e' he' => by rw [hj] at he'; cases he'; exact h3.symm
    refine ⟨es.modify j (fun e' => { e' with key := key, val := val }), clock, ?_, ⟨stamped_modify F.stamped _ _ (fun _ _ => rfl) (fun e' _ he' => hkeyf e' he'), fun x hx => ?_⟩, .inl ⟨j, e0.val, by rw [prs8, List.getElem?_map, h2, ← h3]; rfl, by rw [prs8, modify8 _ h2, List.map_set]; rfl⟩⟩
    · simp [Instr.mapUpdate, run_underlying ht, MapKept.run_getObj_map hb, K.check w false hkey, h1, hj, h3, K.stays w hkey, MapKept.run_setObj_map _ hb, Result.andThen, setBlock]
    · rw [modify8 _ h2] at hx
      rcases List.mem_or_eq_of_mem_set hx with h | h
      · exact F.keys x h
      · rw [h]; exact ⟨kl, hkey⟩
theorem laid8 : laidOutB Tryz.prog = true := by kernel_rfl
theorem packLaw : Maps.Keyed Tryz.prog 164 :=
  Maps.Keyed.of_law (deep_law_gate laid8 (of_decide_eq_true (by kernel_rfl)) (of_decide_eq_true (by kernel_rfl)) (by kernel_rfl) (by kernel_rfl))
theorem wf8 {n : Int} (h : inI n) : (Lit.int .i64 n).wf = true := by
  unfold inI at h
  have e1 : IntKind.i64.min = -9223372036854775808 := by decide
  have e2 : IntKind.i64.max = 9223372036854775807 := by decide
  simp [Lit.wf, e1, e2]
  omega
theorem packKey {r n x y z : Int} (hr : inI r) (hn : inI n) (hx : inI x) (hy : inI y) (hz : inI z) : ∃ kl, keyOf Tryz.prog 164 (.agg #[.int .i64 r, .int .i64 n, .int .i64 x, .int .i64 y, .int .i64 z]) = some kl := by
  have h1 : Tryz.prog.keyType 164 = true := by kernel_rfl
  have c1 : Tryz.prog.cellsOf 3 = 1 := by kernel_rfl
  have c3 : Tryz.prog.cellsOf 100 = 3 := by kernel_rfl
  have c5 : Tryz.prog.cellsOf 164 = 5 := by kernel_rfl
  have h2 : Value.formed Tryz.prog 164 (.agg #[.int .i64 r, .int .i64 n, .int .i64 x, .int .i64 y, .int .i64 z]) = true := by
    unfold Value.formed
    rw [Tryz.underlying164]
    rw [c5]; rfl
  obtain ⟨m, hm⟩ : ∃ m, Tryz.prog.types.size = m + 1 + 1 := ⟨Tryz.prog.types.size - 2, by kernel_rfl⟩
  have hl : ∀ (d : Nat) {n : Int}, inI n → Tryz.prog.keyLits (d + 1) 3 [.int .i64 n] = some [.int .i64 n] := fun d n h => by
    unfold Program.keyLits
    rw [Tryz.underlying3]
    simp [wf8 h]
  have h3 : ∀ d, Tryz.prog.keyLits (d + 1 + 1) 100 [.int .i64 x, .int .i64 y, .int .i64 z] = some [.int .i64 x, .int .i64 y, .int .i64 z] := fun d => by
    unfold Program.keyLits
    rw [Tryz.underlying100]
    simp [c1, c3, List.range, List.range.loop, hl d hx, hl d hy, hl d hz]
  have h5 : ∃ ls, Tryz.prog.keyLits (Tryz.prog.types.size + 1) 164 [.int .i64 r, .int .i64 n, .int .i64 x, .int .i64 y, .int .i64 z] = some ls := by
    rw [hm]
    unfold Program.keyLits
    rw [Tryz.underlying164]
    simp [c1, c3, c5, hl _ hr, hl _ hn, h3]
  obtain ⟨ls, h5⟩ := h5
  unfold keyOf
  rw [Tryz.underlying164]
  simp only [h1, h2, Bool.and_self, if_true]
  exact ⟨_, by show Option.map _ (Tryz.prog.keyLits _ _ [_, _, _, _, _]) = _; rw [h5]; rfl⟩

/-- The values of the terms so far, as a map. -/
def fzD (ts : List Int) : DataW Unit := ts.foldl (fun D t => D.put (.int .i64 t) (.lit (.int .i64 (val8 t)))) (.map [])
theorem fzD_snoc (ts : List Int) (t : Int) : fzD (ts ++ [t]) = (fzD ts).put (.int .i64 t) (.lit (.int .i64 (val8 t))) := by unfold fzD; rw [List.foldl_append]; rfl
theorem intLaw8 : Maps.Keyed Tryz.prog 3 := Maps.int_keyed Tryz.underlying3
theorem fz_at (z : DataW Unit) (t : Int) : ∀ (ts : List Int) (D : DataW Unit), Maps.IsMap D → (t ∈ ts ∨ D.atKey (.int .i64 t) z = .lit (.int .i64 (val8 t))) → (ts.foldl (fun D t => D.put (.int .i64 t) (.lit (.int .i64 (val8 t)))) D).atKey (.int .i64 t) z = .lit (.int .i64 (val8 t))
  | [], D, _, h => h.elim (fun h => by cases h) id
  | x :: ts, D, hD, h => by
    rw [List.foldl_cons]
    refine fz_at z t ts _ (hD.put _ _) ?_
    by_cases hx : t = x
    · subst hx; exact .inr (Maps.atKey_put_same hD (by simp [WideAt.IsKeyLit]) _ _)
    · rcases h with h | h
      · rcases List.mem_cons.1 h with h | h
        · exact absurd h hx
        · exact .inl h
      · exact .inr (by rw [Maps.atKey_put_other (fun e => hx (by cases e; rfl))]; exact h)
theorem fzD_at {ts : List Int} {t : Int} (h : t ∈ ts) (z : DataW Unit) : (fzD ts).atKey (.int .i64 t) z = .lit (.int .i64 (val8 t)) := fz_at z t ts _ Maps.isMap_empty (.inl h)
/-- The block M is a map that has the values of these terms. -/
def FT (w : World) (M : Nat) (ts : List Int) : Prop := w.ownsMap Tryz.prog 3 (plainElem Tryz.prog 3) M ts.length (fzD ts)
theorem FT.onlyAt {w w' : World} {M : Nat} {ts : List Int} {bs : List Nat} (h : FT w M ts) (ko : OnlyAt bs w w') (hn : M ∉ bs) : FT w' M ts := by
  obtain ⟨es, clock, hb, F, hs, hD⟩ := h
  exact ⟨es, clock, by rw [ko.block M (Array.getElem?_eq_some_iff.1 hb).1 hn]; exact hb, F, hs, hD⟩
theorem FT.below {w w' : World} {M : Nat} {ts : List Int} (h : FT w M ts) (hb : Below w.heap.size w w') : FT w' M ts := h.onlyAt (OnlyAt.ofBelow [] hb) (by simp)
end Go.Proofs.YtfojllkkbdpfkaaGreat

/-! I8vl -/
namespace Go.Proofs.YtfojllkkbdpfkaaGreat
open Go Go.Sort Go.RowKit
set_option linter.unusedVariables false

theorem FT.ne {w : World} {M : Nat} {ts : List Int} {b o : Nat} {v : Value} (h : FT w M ts) (hc : w.cell? ⟨b, o, none⟩ = some v) : b ≠ M := by
  rintro rfl
  obtain ⟨es, clock, hb, _⟩ := h
  simp [World.cell?, hb] at hc
theorem FT.ints {w w' : World} {M : Nat} {ts : List Int} {v : Value} {l : List Int} (h : FT w M ts) (ko : OnlyAt [M] w w') (hi : Ints w v l) : Ints w' v l := by
  refine hi.onlyAt ko (fun b off n c e h0 hm => ?_)
  subst e
  obtain ⟨a, n', c', e, hl, hn, hmx, hc⟩ := hi.cases
  cases e
  obtain ⟨b', off', e, _, hcc⟩ := hc (by omega)
  cases e
  exact h.ne (hcc 0 (by omega)) (by simpa using hm)
theorem FT.snoc {w' : World} {M : Nat} {ts : List Int} {t : Int} (h : w'.ownsMap Tryz.prog 3 (plainElem Tryz.prog 3) M (ts.length + 1) ((fzD ts).put (.int .i64 t) (.lit (.int .i64 (val8 t))))) : FT w' M (ts ++ [t]) := by
  unfold FT; rw [fzD_snoc, List.length_append]; exact h
theorem take_snoc8 {l : List Int} {i : Nat} (h : i < l.length) : l.take (i + 1) = l.take i ++ [l.getD i 0] := by
  rw [List.take_succ_eq_append_getElem h, List.getD_eq_getElem?_getD, List.getElem?_eq_getElem h]; rfl
theorem plain8 {x : Int} (h : inI x) : plainElem (H := Unit) Tryz.prog 3 (.int .i64 x) = some (.lit (.int .i64 x), []) := plainElem_int Tryz.underlying3 (wf8 h)
theorem terms_yes8 {l : List Int} (h3 : l.length ≤ 3) (h : ∀ j, j < l.length → termB (l.getD j 0) = true) : termsB l = true := by
  unfold termsB
  rw [decide_eq_true h3, Bool.and_true, List.all_eq_true]
  intro x hx
  obtain ⟨j, hj⟩ := List.mem_iff_getElem?.1 hx
  have := h j (List.getElem?_eq_some_iff.1 hj).1
  rwa [List.getD_eq_getElem?_getD, hj] at this
theorem terms_no8 {l : List Int} {j : Nat} (hj : j < l.length) (h : termB (l.getD j 0) = false) : termsB l = false := by
  cases hb : termsB l
  · rfl
  · have := List.all_eq_true.1 (terms_all hb) (l.getD j 0) (by rw [List.getD_eq_getElem?_getD, List.getElem?_eq_getElem hj]; exact List.getElem_mem hj)
    rw [this] at h; cases h
theorem terms_long8 {l : List Int} (h : ¬ l.length ≤ 3) : termsB l = false := by unfold termsB; rw [decide_eq_false h, Bool.and_false]

/-- What adding the terms of a list does. -/
def Added (w : World) (M : Nat) (ts l : List Int) (e : Ending) (w' : World) : Prop :=
  ∃ ts', e = .returned (.bool (termsB l)) ∧ FT w' M ts' ∧ (∀ t ∈ ts, t ∈ ts') ∧ (termsB l = true → ∀ t ∈ l, t ∈ ts') ∧ ts'.length ≤ ts.length + 3 ∧ OnlyAt [M] w w'

set_option maxHeartbeats 4000000 in
theorem iAddAll_any (w : World) (M : Nat) (v : Value) (l ts : List Int) (h : Ints w v l) (hF : FT w M ts) (hts : ts.length ≤ 1000) :
    Calls Tryz.prog 140 #[.map (some M), v] w (Added w M ts l) := by
  obtain ⟨a, n, cap, rfl, hl, hn, hm, hcell⟩ := h.cases
  unfold maxLen at hm
  have HL := Lib.hid hl
  have HF := Lib.hid hF
  have HTS := Lib.hid hts
  by_cases h3 : n ≤ 3
  · have HC := Lib.hid hcell
    have HI := Lib.hid h.1
    have h3' : ¬ (3 : Int) < n := by omega
    clear h hcell hl hF hts
    go_enter Tryz.func140, Tryz.ntmps140
    go_wp2_with fail
    go_loopw [12] (fun iv wr => ∃ i : Nat, i ≤ n ∧ iv = .int .i64 i ∧ (∀ j, j < i → termB (l.getD j 0) = true) ∧ Hid (FT wr M (ts ++ l.take i)) ∧ Hid (OnlyAt [M] w wr)) (fun iv _ => n - (intOf iv).toNat)
    case atStart => exact ⟨0, by omega, rfl, fun j hj => by omega, Lib.hid (by simpa using HF.out), Lib.hid (OnlyAt.refl _ _)⟩
    case round =>
      obtain ⟨i, hi, rfl, hok, HT, HO⟩ := hrel
      by_cases hlt : i < n
      · obtain ⟨b, off, rfl, hbw, hc⟩ := HC.out (by omega)
        have c1 := HO.out.cell (by simpa using HF.out.ne (hc i hlt)) (hc i hlt)
        have hi0 : (0 : Int) ≤ i := by omega
        have hi1 : (i : Int) < n := by omega
        have hin := inI_getD HI.out i
        have HOK := Lib.hid hok
        have HTK := Lib.hid (take_snoc8 (l := l) (i := i) (by rw [HL.out]; exact hlt))
        have HNO := Lib.hid (fun h => terms_no8 (l := l) (j := i) (by rw [HL.out]; exact hlt) h)
        have HIV := Lib.hid (fun w => iIsVar_any (l.getD i 0) w)
        have HIT := Lib.hid (fun w => iIsTerm_any (l.getD i 0) w hin.1 hin.2)
        have HIC := Lib.hid (fun w => iConstOf_any (l.getD i 0) w hin.1 hin.2)
        have HX : ∃ x, x = l.getD i 0 := ⟨_, rfl⟩
        obtain ⟨x, hx⟩ := HX
        rw [← hx] at c1 hin HTK HNO HIV HIT HIC
        have HXE := Lib.hid hx
        have HKEY := Lib.hid (Maps.keyOf_int_mk Tryz.underlying3 (wf8 hin))
        have hns : (ts ++ l.take i).length < 2000 := by have := HTS.out; simp; omega
        have HNEXT : Hid (∀ w3, w3.ownsMap Tryz.prog 3 (plainElem (H := Unit) Tryz.prog 3) M ((ts ++ l.take i).length + 1) ((fzD (ts ++ l.take i)).put (.int .i64 x) (.lit (.int .i64 (val8 x)))) → FT w3 M (ts ++ l.take (i + 1))) := fun w3 h => by
          rw [HTK.out, ← List.append_assoc]; exact FT.snoc h
        clear hc hbw hok hx
        go_wp2_with fail
        refine (HIV.out _).mono ?_
        rintro e w2 ⟨rfl, rfl⟩
        cases hv : varB x with
        | true =>
          have hvr := of_decide_eq_true hv
          have htx : termB x = true := by unfold termB; rw [hv]; rfl
          have HV8 : Hid (plainElem (H := Unit) Tryz.prog 3 (.int .i64 (80 + x)) = some (.lit (.int .i64 (val8 x)), [])) := by
            unfold Hid; rw [val8_pos hvr.1]; exact plain8 (by unfold inI; omega)
          have HTX := Lib.hid htx
          clear hv htx
          go_wp2_with (at_mapUpdate; refine wpList_mapUpdate_own _ rfl _ _ _ 115 rfl 3 3 intLaw8 Tryz.underlying115 _ M _ _ rfl HT.out (by unfold maxLen; omega) _ _ _ rfl rfl HKEY.out (.lit (.int .i64 (val8 x))) [] HV8.out ?_; intro w3 hown3 hgrow3)
          have HT3 := Lib.hid (HNEXT.out w3 hown3)
          have HO3 := Lib.hid (HO.out.same (onlyAt_grown [M] hgrow3 (fun k e => by cases e; simp)))
          clear hown3 hgrow3
          go_wp2_with fail
          exact ⟨⟨i + 1, by omega, by simp, fun j hj => by
            rcases Nat.lt_or_ge j i with h1 | h1
            · exact HOK.out j h1
            · obtain rfl : j = i := by omega
              rw [← HXE.out]; exact HTX.out, HT3, HO3⟩, by simp [intOf]; omega⟩
        | false =>
          go_wp2_with fail
          refine (HIT.out _).mono ?_
          rintro e w2 ⟨rfl, rfl⟩
          cases htx : termB x with
          | true =>
            have hcb : conB x = true := by unfold termB at htx; rw [hv] at htx; simpa using htx
            have hcr := of_decide_eq_true hcb
            have hcv : conOf x = val8 x := by unfold conOf; rw [hcb, if_pos rfl, val8_neg (by omega)]
            have HV8 : Hid (plainElem (H := Unit) Tryz.prog 3 (.int .i64 (conOf x)) = some (.lit (.int .i64 (val8 x)), [])) := by
              unfold Hid; rw [hcv]; exact plain8 (val8_inI htx)
            have HTX := Lib.hid htx
            clear hv htx hcb hcv
            go_wp2_with fail
            refine (HIC.out _).mono ?_
            rintro e w2 ⟨rfl, rfl⟩
            generalize conOf x = cx at *
            go_wp2_with (at_mapUpdate; refine wpList_mapUpdate_own _ rfl _ _ _ 115 rfl 3 3 intLaw8 Tryz.underlying115 _ M _ _ rfl HT.out (by unfold maxLen; omega) _ _ _ rfl rfl HKEY.out (.lit (.int .i64 (val8 x))) [] HV8.out ?_; intro w3 hown3 hgrow3)
            have HT3 := Lib.hid (HNEXT.out w3 hown3)
            have HO3 := Lib.hid (HO.out.same (onlyAt_grown [M] hgrow3 (fun k e => by cases e; simp)))
            clear hown3 hgrow3
            go_wp2_with fail
            exact ⟨⟨i + 1, by omega, by simp, fun j hj => by
              rcases Nat.lt_or_ge j i with h1 | h1
              · exact HOK.out j h1
              · obtain rfl : j = i := by omega
                rw [← HXE.out]; exact HTX.out, HT3, HO3⟩, by simp [intOf]; omega⟩
          | false =>
            have HN := Lib.hid (HNO.out htx)
            clear htx hv
            go_wp2_with fail
            go_ret
            exact ⟨ts ++ l.take i, by rw [HN.out]; rfl, HT.out, fun t ht => List.mem_append.2 (.inl ht), (fun h => by rw [HN.out] at h; cases h), by simp; omega, HO.out⟩
      · obtain rfl : i = n := by omega
        have HY : Hid (termsB l = true) := terms_yes8 (by rw [HL.out]; exact h3) (fun j hj => hok j (by rw [HL.out] at hj; exact hj))
        have HTK : Hid (l.take i = l) := List.take_of_length_le (by rw [HL.out]; exact Nat.le_refl _)
        clear hok
        go_wp2_with fail
        go_ret
        have h5 := HT.out
        rw [HTK.out] at h5
        exact ⟨ts ++ l, by rw [HY.out]; rfl, h5, fun t ht => List.mem_append.2 (.inl ht), fun _ t ht => List.mem_append.2 (.inr ht), by simp; have := HL.out; omega, HO.out⟩
  · have HN := Lib.hid (terms_long8 (l := l) (by omega))
    have h3' : (3 : Int) < n := by omega
    clear h hcell hl hF hts
    go_enter Tryz.func140, Tryz.ntmps140
    go_wp2_with fail
    go_ret
    exact ⟨ts, by rw [HN.out]; rfl, HF.out, fun t ht => ht, (fun h => by rw [HN.out] at h; cases h), by omega, OnlyAt.refl _ _⟩

set_option maxRecDepth 100000 in
set_option maxHeartbeats 4000000 in
theorem iValues_any (w : World) (M : Nat) (v : Value) (l ts : List Int) (h : Ints w v l) (hF : FT w M ts) (hin : ∀ t ∈ l, t ∈ ts) (ht : termsB l = true) :
    Calls Tryz.prog 93 #[.map (some M), v] w (GaveInts w (l.map val8)) := by
  obtain ⟨a, n, cap, rfl, hl, hn, hm, hcell⟩ := h.cases
  unfold maxLen at hm
  have hz := terms_len3 ht
  rw [hl] at hz
  have HC := Lib.hid hcell
  have HL := Lib.hid hl
  have HF := Lib.hid hF
  have HTE : Hid (∀ i, i < n → l.getD i 0 ∈ l) := fun i hi => by
    rw [List.getD_eq_getElem?_getD, List.getElem?_eq_getElem (by omega)]; exact List.getElem_mem _
  have HTB : Hid (∀ t ∈ l, termB t = true) := fun t hx => List.all_eq_true.1 (terms_all ht) t hx
  have HIN := Lib.hid hin
  have HI : Hid (∀ x ∈ l.map val8, inI x) := fun x hx => by obtain ⟨y, hy, rfl⟩ := List.mem_map.1 hx; exact val8_inI (HTB.out y hy)
  clear h hcell hl hF hin ht
  go_enter Tryz.func93, Tryz.ntmps93
  go_wp2_with (at_make; refine wpList_make_built rfl (.tmp 9) (.tmp 9) 22 rfl .i64 3 0 8 Tryz.underlying22 info_i64 (by decide) (Below.refl _ w) .i64 .i64 n rfl rfl (by omega) ?_)
  intro w1 hb1
  have hq0 : flOf val8 l 0 = List.replicate n 0 := by rw [flOf_zero, HL.out]
  rw [← hq0] at hb1
  have HB1 := Lib.hid hb1
  clear hb1 hq0
  go_wp2_with fail
  go_loopw [13] (fun iv wr => ∃ i : Nat, i ≤ n ∧ iv = .int .i64 i ∧ Hid (Built .i64 3 w wr (.slice (some ⟨w.heap.size, 0, none⟩) n n) (flOf val8 l i))) (fun iv _ => n - (intOf iv).toNat)
  case atStart => exact ⟨0, by omega, rfl, HB1⟩
  case round =>
    obtain ⟨i, hi, rfl, HB⟩ := hrel
    have HBB := Lib.hid (HB.out.below)
    by_cases hlt : i < n
    · obtain ⟨b, off, rfl, hbw, hc⟩ := HC.out (by omega)
      have c1 := cellk HBB.out (hc i hlt)
      have hi0 : (0 : Int) ≤ i := by omega
      have hi1 : (i : Int) < n := by omega
      have HSET := Lib.hid (flOf_set val8 l i (by rw [HL.out]; exact hlt))
      have hsz := flOf_len val8 l i (by rw [HL.out]; omega)
      rw [HL.out] at hsz
      have hcell := (hsz.symm ▸ HB.out : Built .i64 3 w wr (.slice (some ⟨w.heap.size, 0, none⟩) (flOf val8 l i).length (flOf val8 l i).length) (flOf val8 l i)).cell i (by rw [hsz]; exact hlt)
      have hfr := HB.out.frozen hsz.symm i
      generalize (flOf val8 l i).getD i 0 = y0 at hcell
      have hst := Lib.hid (HB.out.store hsz.symm i (val8 (l.getD i 0)))
      have HFW := Lib.hid (HF.out.below HBB.out)
      have HAT := Lib.hid (fzD_at (HIN.out _ (HTE.out i hlt)) (.lit (.int .i64 0)))
      have htb := HTB.out _ (HTE.out i hlt)
      have htr := term_in htb
      have HKEY := Lib.hid (Maps.keyOf_int_mk Tryz.underlying3 (wf8 (by unfold inI; omega : inI (l.getD i 0))))
      generalize l.getD i 0 = x at *
      clear hc hbw hsz htb
      go_wp2_with (at_lookup; refine wpList_lookup_own_int _ rfl _ _ 115 rfl 3 3 .i64 intLaw8 Tryz.underlying115 Tryz.underlying3 (Tryz.zeroValue3 _) M _ _ rfl HFW.out _ _ rfl HKEY.out ?_; intro c hat hwc)
      have hcv : c = val8 x := by rw [HAT.out] at hat; cases hat; rfl
      subst hcv
      clear hat hwc
      go_wp2_with fail
      refine ⟨⟨i + 1, by omega, by simp, ?_⟩, by simp [intOf]; omega⟩
      have h2 := hst.out
      rw [HSET.out] at h2
      exact h2
    · obtain rfl : i = n := by omega
      have hall := HB.out
      rw [show i = l.length from HL.out.symm, flOf_all, HL.out] at hall
      have HALL := Lib.hid hall
      clear hall
      go_wp2_with fail
      go_ret
      exact HALL.out.owns HI.out

/-- What adding the terms of a query does. -/
def AddedQ (w : World) (M : Nat) (d : QueryD) (e : Ending) (w' : World) : Prop :=
  ∃ ts, e = .returned (.bool (frzOk d)) ∧ FT w' M ts ∧ (frzOk d = true → (∀ t ∈ d.1, t ∈ ts) ∧ ∀ a ∈ d.2, ∀ t ∈ a.2, t ∈ ts) ∧ OnlyAt [M] w w'
set_option maxRecDepth 100000 in
set_option maxHeartbeats 8000000 in
theorem iAddQuery_any (w : World) (M : Nat) (v : Value) (d : QueryD) (h : RdQuery w v d) (hF : FT w M []) :
    Calls Tryz.prog 91 #[.map (some M), v] w (AddedQ w M d) := by
  obtain ⟨ha, hn, hc, ba, bn, bc, rfl, h1, h2⟩ := h
  obtain ⟨hl, hnc, hm, hcell⟩ := h2.at
  unfold maxLen at hm
  have HL := Lib.hid hl
  have HC := Lib.hid hcell
  have HHD := Lib.hid h1
  have HF := Lib.hid hF
  have HA := Lib.hid (fun w v l ts h hF hts => iAddAll_any w M v l ts h hF hts)
  have hMw : M < w.heap.size := hF.lt
  clear h1 h2 hcell hl hF
  by_cases h8 : bn ≤ 8
  · have h8' : ¬ (8 : Int) < bn := by omega
    go_enter Tryz.func91, Tryz.ntmps91
    go_wp2_with fail
    have q0 : (w.alloc (.cells #[.slice ha hn hc, .slice ba bn bc] 38)).cell? ⟨w.heap.size, 0, none⟩ = some (.slice ha hn hc) := by simp
    have q1 : (w.alloc (.cells #[.slice ha hn hc, .slice ba bn bc] 38)).cell? ⟨w.heap.size, 1, none⟩ = some (.slice ba bn bc) := by simp
    have HBW := Lib.hid (below_alloc w (.cells #[.slice ha hn hc, .slice ba bn bc] 38))
    have HFW := Lib.hid (HF.out.below HBW.out)
    obtain ⟨B, hB⟩ : ∃ x, x = w.heap.size := ⟨_, rfl⟩
    rw [← hB] at q0 q1 hMw
    simp only [← hB]
    have hMB : B ≠ M := by omega
    generalize (w.alloc (.cells #[.slice ha hn hc, .slice ba bn bc] 38)) = W at *
    have HBS := Lib.hid hB
    clear hB
    refine (HA.out _ _ d.1 [] (HHD.out.below HBW.out) HFW.out (by simp)).mono ?_
    rintro e w1 ⟨ts1, rfl, hf1, _, hall1, hlen1, ho1⟩
    replace q0 := ho1.cell (by simpa using hMB) q0
    replace q1 := ho1.cell (by simpa using hMB) q1
    have HO1 := Lib.hid ((OnlyAt.ofBelow [M] HBW.out).same ho1)
    have HF1 := Lib.hid hf1
    have HALL1 := Lib.hid hall1
    have hlen1' : ts1.length ≤ 3 := by simpa using hlen1
    clear hf1 hall1 hlen1 ho1
    cases hth : termsB d.1 with
    | false =>
      have HN := Lib.hid (frz_no1 hth)
      clear hth
      go_wp2_with fail
      go_ret
      exact ⟨ts1, by rw [HN.out]; rfl, HF1.out, (fun h => by rw [HN.out] at h; cases h), HO1.out⟩
    | true =>
      have HTH := Lib.hid hth
      have HALL := Lib.hid (HALL1.out hth)
      have K0 := Lib.hid q0
      have K1 := Lib.hid q1
      clear hth HALL1 q0
      go_wp2_with fail
      clear q1
      go_loopw [21] (fun iv wr => ∃ (i : Nat) (ts : List Int), i ≤ bn ∧ iv = .int .i64 i ∧ (∀ t ∈ ts1, t ∈ ts) ∧ (∀ (j : Nat) a, j < i → d.2[j]? = some a → termsB a.2 = true ∧ ∀ t ∈ a.2, t ∈ ts) ∧ ts.length ≤ 3 + 3 * i ∧ Hid (FT wr M ts) ∧ Hid (OnlyAt [M] w1 wr)) (fun iv _ => bn - (intOf iv).toNat)
      case atStart => exact ⟨0, ts1, by omega, rfl, fun t ht => ht, fun j a hj => by omega, by omega, HF1, Lib.hid (OnlyAt.refl _ _)⟩
      case round =>
        obtain ⟨i, ts, hi, rfl, hsub, hok, hlen, HT, HO⟩ := hrel
        by_cases hlt : i < bn
        · obtain ⟨b, off, rfl, hbw, hc⟩ := HC.out (by omega)
          obtain ⟨e, hd⟩ : ∃ e, d.2[i]? = some e := ⟨d.2[i]'(by rw [HL.out]; exact hlt), List.getElem?_eq_getElem (by rw [HL.out]; exact hlt)⟩
          obtain ⟨ea, em, ec, c0, c1, hdi, hints⟩ := atomAt (n := bn) hc i e hd
          have HOW := Lib.hid (HO1.out.same HO.out)
          have r0 := HOW.out.cell (by simpa using HF.out.ne c0) c0
          have r1 := HOW.out.cell (by simpa using HF.out.ne c1) c1
          have hi0 : (0 : Int) ≤ i := by omega
          have hi1 : (i : Int) < bn := by omega
          have HIN := Lib.hid (HF.out.ints HOW.out hints)
          have HD := Lib.hid hd
          have HOK := Lib.hid hok
          have HSUB := Lib.hid hsub
          clear hc hbw c0 c1 hints hok hdi hd hsub
          go_wp2_with fail
          refine (HA.out _ _ e.2 ts (HIN.out.below (below_alloc _ _)) (HT.out.below (below_alloc _ _)) (by omega)).mono ?_
          rintro e2 w2 ⟨ts2, rfl, hf2, hsub2, hall2, hlen2, ho2⟩
          have HF2 := Lib.hid hf2
          have HALL2 := Lib.hid hall2
          have HSUB2 := Lib.hid hsub2
          have HO2 := Lib.hid (HO.out.same ((OnlyAt.ofBelow [M] (below_alloc _ _)).same ho2))
          clear hf2 hall2 hsub2 ho2
          cases hte : termsB e.2 with
          | false =>
            have HN := Lib.hid (frz_no3 HD.out hte)
            clear hte
            go_wp2_with fail
            go_ret
            exact ⟨ts2, by rw [HN.out]; rfl, HF2.out, (fun h => by rw [HN.out] at h; cases h), HO1.out.same HO2.out⟩
          | true =>
            have HTE := Lib.hid hte
            have HALL3 := Lib.hid (HALL2.out hte)
            clear hte HALL2
            go_wp2_with fail
            exact ⟨⟨i + 1, ts2, by omega, by simp, fun t ht => HSUB2.out t (HSUB.out t ht), fun j a hj ha => by
              rcases Nat.lt_or_ge j i with h1 | h1
              · exact ⟨(HOK.out j a h1 ha).1, fun t ht => HSUB2.out t ((HOK.out j a h1 ha).2 t ht)⟩
              · obtain rfl : j = i := by omega
                rw [HD.out] at ha; cases ha; exact ⟨HTE.out, HALL3.out⟩, by omega, HF2, HO2⟩, by simp [intOf]; omega⟩
        · obtain rfl : i = bn := by omega
          have HYES : Hid (frzOk d = true) := frz_yes HTH.out (by rw [HL.out]; exact h8) (fun j a ha => (hok j a (by have := (List.getElem?_eq_some_iff.1 ha).1; rw [HL.out] at this; exact this) ha).1)
          have HP : Hid ((∀ t ∈ d.1, t ∈ ts) ∧ ∀ a ∈ d.2, ∀ t ∈ a.2, t ∈ ts) := ⟨fun t ht => hsub t (HALL.out t ht), fun a ha t ht => by
            obtain ⟨j, hj⟩ := List.mem_iff_getElem?.1 ha
            exact (hok j a (by have := (List.getElem?_eq_some_iff.1 hj).1; rw [HL.out] at this; exact this) hj).2 t ht⟩
          clear hok hlt hsub
          go_wp2_with fail
          go_ret
          exact ⟨ts, by rw [HYES.out]; rfl, HT.out, (fun _ => HP.out), HO1.out.same HO.out⟩
  · have HN := Lib.hid (frz_no2 (d := d) (by rw [HL.out]; exact h8))
    have h8' : (8 : Int) < bn := by omega
    clear h8
    go_enter Tryz.func91, Tryz.ntmps91
    go_wp2_with fail
    have q0 : (w.alloc (.cells #[.slice ha hn hc, .slice ba bn bc] 38)).cell? ⟨w.heap.size, 0, none⟩ = some (.slice ha hn hc) := by simp
    have q1 : (w.alloc (.cells #[.slice ha hn hc, .slice ba bn bc] 38)).cell? ⟨w.heap.size, 1, none⟩ = some (.slice ba bn bc) := by simp
    have HBW := Lib.hid (below_alloc w (.cells #[.slice ha hn hc, .slice ba bn bc] 38))
    have HFW := Lib.hid (HF.out.below HBW.out)
    obtain ⟨B, hB⟩ : ∃ x, x = w.heap.size := ⟨_, rfl⟩
    rw [← hB] at q0 q1 hMw
    simp only [← hB]
    have hMB : B ≠ M := by omega
    generalize (w.alloc (.cells #[.slice ha hn hc, .slice ba bn bc] 38)) = W at *
    have HBS := Lib.hid hB
    clear hB
    go_ret
    exact ⟨[], by rw [HN.out]; rfl, HFW.out, (fun h => by rw [HN.out] at h; cases h), OnlyAt.ofBelow [M] HBW.out⟩
end Go.Proofs.YtfojllkkbdpfkaaGreat

/-! I8sh -/
namespace Go.Proofs.YtfojllkkbdpfkaaGreat
open Go Go.Shelf Go.Proofs

def laysF_ren : Go.Shelf.Ren := ⟨fun | 6 => 142 | 15 => 112 | 14 => 188 | 28 => 160 | 29 => 161 | 20 => 208 | 21 => 209 | 22 => 210 | 23 => 211 | 24 => 212 | 25 => 213 | 26 => 214 | 27 => 215 | 46 => 222 | 47 => 194 | 48 => 195 | 49 => 223 | 50 => 224 | 57 => 227 | n => n, fun | 22 => 40 | 24 => 83 | 25 => 167 | 3 => 3 | 39 => 136 | 0 => 0 | 53 => 181 | 55 => 183 | 4 => 4 | 46 => 174 | 45 => 173 | 50 => 178 | 5 => 5 | 9 => 9 | 66 => 202 | 70 => 206 | 76 => 221 | 77 => 222 | n => n, fun | n => n⟩
theorem laysF : Go.Proofs.SlLaysF0.n6 Tryz.prog laysF_ren := {
  mixed := by kernel_rfl
  f6 := ⟨Tryz.f142.name, by decide, Tryz.func142.trans (congrArg some (by kernel_rfl))⟩
  f14 := ⟨Tryz.f188.name, by decide, Tryz.func188.trans (congrArg some (by kernel_rfl))⟩
  f15 := Tryz.func112.trans (congrArg some (by kernel_rfl))
  f20 := ⟨Tryz.f208.name, by decide, Tryz.func208.trans (congrArg some (by kernel_rfl))⟩
  f21 := ⟨Tryz.f209.name, by decide, Tryz.func209.trans (congrArg some (by kernel_rfl))⟩
  f22 := ⟨Tryz.f210.name, by decide, Tryz.func210.trans (congrArg some (by kernel_rfl))⟩
  f23 := ⟨Tryz.f211.name, by decide, Tryz.func211.trans (congrArg some (by kernel_rfl))⟩
  f24 := ⟨Tryz.f212.name, by decide, Tryz.func212.trans (congrArg some (by kernel_rfl))⟩
  f25 := ⟨Tryz.f213.name, by decide, Tryz.func213.trans (congrArg some (by kernel_rfl))⟩
  f26 := ⟨Tryz.f214.name, by decide, Tryz.func214.trans (congrArg some (by kernel_rfl))⟩
  f27 := ⟨Tryz.f215.name, by decide, Tryz.func215.trans (congrArg some (by kernel_rfl))⟩
  f28 := Tryz.func160.trans (congrArg some (by kernel_rfl))
  f29 := Tryz.func161.trans (congrArg some (by kernel_rfl))
  f46 := ⟨Tryz.f222.name, by decide, Tryz.func222.trans (congrArg some (by kernel_rfl))⟩
  f47 := Tryz.func194.trans (congrArg some (by kernel_rfl))
  f48 := Tryz.func195.trans (congrArg some (by kernel_rfl))
  f49 := ⟨Tryz.f223.name, by decide, Tryz.func223.trans (congrArg some (by kernel_rfl))⟩
  f50 := ⟨Tryz.f224.name, by decide, Tryz.func224.trans (congrArg some (by kernel_rfl))⟩
  f57 := ⟨Tryz.f227.name, by decide, Tryz.func227.trans (congrArg some (by kernel_rfl))⟩
  t0 := Tryz.underlying0
  a0 := Tryz.isAgg0
  z0 := Tryz.sizeOf0
  v0 := Tryz.zeroValue0
  t3 := Tryz.underlying3
  a3 := Tryz.isAgg3
  z3 := Tryz.sizeOf3
  v3 := Tryz.zeroValue3
  t4 := Tryz.underlying4
  a4 := Tryz.isAgg4
  z4 := Tryz.sizeOf4
  v4 := Tryz.zeroValue4
  t5 := Tryz.underlying5
  a5 := Tryz.isAgg5
  z5 := Tryz.sizeOf5
  v5 := Tryz.zeroValue5
  t9 := Tryz.underlying9
  a9 := Tryz.isAgg9
  z9 := Tryz.sizeOf9
  v9 := Tryz.zeroValue9
  t22 := Tryz.underlying40
  a22 := Tryz.isAgg40
  z22 := Tryz.sizeOf40
  v22 := Tryz.zeroValue40
  t25 := Tryz.underlying167
  a25 := Tryz.isAgg167
  z25 := Tryz.sizeOf167
  v25 := Tryz.zeroValue167
  t39 := Tryz.underlying136
  a39 := Tryz.isAgg136
  z39 := Tryz.sizeOf136
  v39 := Tryz.zeroValue136
  t45 := Tryz.underlying173
  a45 := Tryz.isAgg173
  z45 := Tryz.sizeOf173
  v45 := Tryz.zeroValue173
  t46 := Tryz.underlying174
  a46 := Tryz.isAgg174
  z46 := Tryz.sizeOf174
  v46 := Tryz.zeroValue174
  t50 := Tryz.underlying178
  a50 := Tryz.isAgg178
  z50 := Tryz.sizeOf178
  v50 := Tryz.zeroValue178
  t53 := Tryz.underlying181
  a53 := Tryz.isAgg181
  z53 := Tryz.sizeOf181
  v53 := Tryz.zeroValue181
  t55 := Tryz.underlying183
  a55 := Tryz.isAgg183
  z55 := Tryz.sizeOf183
  v55 := Tryz.zeroValue183
  t66 := Tryz.underlying202
  a66 := Tryz.isAgg202
  z66 := Tryz.sizeOf202
  v66 := Tryz.zeroValue202
  t70 := Tryz.underlying206
  a70 := Tryz.isAgg206
  z70 := Tryz.sizeOf206
  v70 := Tryz.zeroValue206
  t76 := Tryz.underlying221
  a76 := Tryz.isAgg221
  z76 := Tryz.sizeOf221
  v76 := Tryz.zeroValue221
  t77 := Tryz.underlying222
  a77 := Tryz.isAgg222
  z77 := Tryz.sizeOf222
  v77 := Tryz.zeroValue222 }
end Go.Proofs.YtfojllkkbdpfkaaGreat

/-! I8srt -/
namespace Go.Proofs.YtfojllkkbdpfkaaGreat
open Go Go.Sort Go.RowKit Go.Shelf Go.Proofs Go.Lib
set_option linter.unusedVariables false

set_option maxRecDepth 100000 in
set_option maxHeartbeats 2000000 in
theorem iCmpFE_any (w : World) (v v' : Value) (x y : AtomD) (h : RdAtom w v x) (h' : RdAtom w v' y) :
    Calls Tryz.prog 143 #[v, v'] w (fun e w' => e = .returned (.int .i64 (cmpF x y)) ∧ ∃ q os', w' = grow (w.drewN q) os') := by
  obtain ⟨a, n, c, rfl, hi, h⟩ := h
  obtain ⟨a', n', c', rfl, hi', h'⟩ := h'
  obtain ⟨r, l⟩ := x
  obtain ⟨r', l'⟩ := y
  rw [← cmpF_eq]
  simp only at h h' ⊢
  have hb0 : ∀ o o', Below w.heap.size w ((w.alloc o).alloc o') := fun o o' => (below_alloc w o).trans ((below_alloc _ o').mono (by simp))
  have HB0 := Lib.hid hb0
  have HI := Lib.hid h
  have HI' := Lib.hid h'
  have HS := Lib.hid (fun w h h' => iCompareE_any w (.slice a n c) (.slice a' n' c') l l' h h')
  have HC := Lib.hid (fun w => cmp_int r r' w)
  have HO := Lib.hid (fun w b => iOr_any w b (cmpI r r') (cmpL l l'))
  generalize cmpI r r' = p at *
  generalize cmpL l l' = q at *
  generalize orI p q = z at *
  clear h h' hi hi' hb0
  go_enter Tryz.func143, Tryz.ntmps143
  go_wp2_with fail
  obtain ⟨W, hW⟩ : ∃ W, W = ((w.alloc (.cells #[.int .i64 r, .slice a n c] 83)).alloc (.cells #[.int .i64 r', .slice a' n' c'] 83)) := ⟨_, rfl⟩
  obtain ⟨V, hV⟩ : ∃ V, V = { W with drawn := W.drawn + 1 } := ⟨_, rfl⟩
  have hWV : Below W.heap.size W V := by rw [hV]; exact (Below.refl _ _).drew
  have k0 : V.cell? ⟨w.heap.size, 0, none⟩ = some (.int .i64 r) := cellk hWV (by rw [hW]; simp)
  have k1 : V.cell? ⟨w.heap.size, 1, none⟩ = some (.slice a n c) := cellk hWV (by rw [hW]; simp)
  have k2 : V.cell? ⟨w.heap.size + 1, 0, none⟩ = some (.int .i64 r') := cellk hWV (by rw [hW]; simp)
  have k3 : V.cell? ⟨w.heap.size + 1, 1, none⟩ = some (.slice a' n' c') := cellk hWV (by rw [hW]; simp)
  have HBV : Hid (Below w.heap.size w V) := bnext (by rw [hW]; exact HB0.out _ _) hWV
  have hS := Lib.hid ((HS.out V (HI.out.below HBV.out) (HI'.out.below HBV.out)).mono fun e w' ⟨h1, h2⟩ => (⟨h1, h2.symm⟩ : e = Ending.returned (.int .i64 q) ∧ w' = V))
  have hC := Lib.hid ((HC.out V).mono fun e w' ⟨h1, h2⟩ => (⟨h1, h2.symm⟩ : e = Ending.returned (.int .i64 p) ∧ w' = V))
  rw [← hW]
  refine wp_region_still_tail 10 (by kernel_rfl) (by kernel_rfl) ?_
  simp only [List.take_succ_cons, List.take_zero, List.drop_succ_cons, List.drop_zero]
  rw [← hV]
  have HVW : Hid (V = grow (w.drewN 1) #[.cells #[.int .i64 r, .slice a n c] 83, .cells #[.int .i64 r', .slice a' n' c'] 83]) := by
    unfold Hid; rw [hV, hW, alloc_eq_grow, alloc_eq_grow, grow_grow]; rfl
  clear hV hW hWV
  repeat still_step
  still_call hC.out
  repeat still_step
  still_call hS.out
  refine wpStill_nil ?_
  clear k0 k1 k2 k3
  go_wp2_with fail
  refine (HO.out _ _ (by simp) (by simp)).mono ?_
  rintro e w3 ⟨rfl, rfl⟩
  go_wp2_with fail
  go_ret
  exact ⟨rfl, 1, _, by rw [HVW.out, alloc_eq_grow, grow_grow]⟩

theorem lessF_ntrans8 {a b c : AtomD} (h1 : lessF b a = false) (h2 : lessF c b = false) : lessF c a = false := by
  cases h3 : lessF c a
  · rfl
  · cases h4 : lessF a b
    · obtain rfl := lessF_tri h4 h1
      rw [h2] at h3; cases h3
    · have := lessF_trans h3 h4
      rw [h2] at this; cases this
theorem cmpF_swo {β : Type} (key : β → AtomD) : SWO (ltOf (fun x y => cmpF (key x) (key y))) where
  irrefl x := by unfold ltOf; rw [cmpF_neg]; exact lessF_irr _
  trans x y z h1 h2 := by unfold ltOf at *; rw [cmpF_neg] at *; exact lessF_trans h1 h2
  ntrans x y z h1 h2 := by unfold ltOf at *; rw [cmpF_neg] at *; exact lessF_ntrans8 h2 h1
theorem only8_sortWorld {α : Type} [Inhabited α] (enc : α → Value) (w : World) (g off m : Nat) (dk : Array α) (os : Array Obj) : OnlyAt [g] w (sortWorld enc w g off m dk os) := by
  refine ⟨rfl, rfl, rfl, ?_, fun k hk hn => ?_⟩
  · show w.heap.size ≤ ((w.heap.modify g _) ++ os).size
    simp
  · show ((w.heap.modify g _) ++ os)[k]? = w.heap[k]?
    rw [Array.getElem?_append_left (by simpa using hk), Array.getElem?_modify, if_neg (fun e => hn (by simp [e]))]
theorem pairList8 {β : Type} {C : Value → β → Prop} : ∀ (bl : List β) (cs : List Value), cs.length = bl.length → (∀ (j : Nat) (b : β), bl[j]? = some b → ∃ v, cs[j]? = some v ∧ C v b) → ∃ d : List {p : Value × β // C p.1 p.2}, d.map (fun p => p.1.1) = cs ∧ d.map (fun p => p.1.2) = bl
  | [], [], _, _ => ⟨[], rfl, rfl⟩
  | [], _ :: _, h, _ => by simp at h
  | _ :: _, [], h, _ => by simp at h
  | b :: bl, v :: cs, h, hel => by
    obtain ⟨d, h1, h2⟩ := pairList8 bl cs (by simpa using h) (fun j b hb => by
      have := hel (j + 1) b (by simpa using hb)
      simpa using this)
    obtain ⟨v', e, hc⟩ := hel 0 b rfl
    cases e
    exact ⟨⟨(v, b), hc⟩ :: d, by simp [h1], by simp [h2]⟩
/-- The row that the sort has laid, of elements of any number of cells. -/
theorem BuiltC.sorted8 {E : TypeId} {w0 w : World} {g n cap size : Nat} {cs : List Value} (h : BuiltC E size w0 w (.slice (some ⟨g, 0, none⟩) n cap) n cs) (d d' : Array Value) (hH : Holds id w g 0 d) (hd : d.size = n * size) (hd' : d'.size = n * size) (m : Nat) (os : Array Obj) :
    BuiltC E size w0 (sortWorld id w g 0 m d' os) (.slice (some ⟨g, 0, none⟩) n cap) n d'.toList := by
  have ho := only8_sortWorld id w g 0 m d' os
  have hlt := h.lt
  have hbel : Below w0.heap.size w0 (sortWorld id w g 0 m d' os) := OnlyAt.below h.2 ho (by simp; exact hlt.1)
  refine ⟨⟨by simp [hd'], ?_⟩, hbel⟩
  rcases h.1.2 with ⟨e, _⟩ | ⟨g', cap', cur, e, hbase, hg, hc1, hc2, hc3, hc4⟩
  · cases e
  · cases e
    have hheap : (sortWorld id w g 0 m d' os).heap[g]? = some (.cells (putCells id 0 d' cur) E (0, 0)) := by
      show ((w.heap.modify g _) ++ os)[g]? = _
      rw [Array.getElem?_append_left (by simpa using hlt.2), Array.getElem?_modify, if_pos rfl, hg]
      rfl
    have hcapn : n * size ≤ cap * size := Nat.mul_le_mul_right _ hc1
    refine .inr ⟨g, cap, putCells id 0 d' cur, rfl, hbase, hheap, hc1, hc2, by simpa [putCells] using hc3, ?_⟩
    apply List.ext_getElem?
    intro j
    rcases Nat.lt_or_ge j (n * size) with hj | hj
    · have hcell := (holds_sortWorld id w g 0 m d d' os hlt.2 hH (by omega) j (by omega)).1
      rw [List.getElem?_take_of_lt (by omega), Array.getElem?_toList, Array.getElem?_toList]
      rw [Nat.zero_add] at hcell
      have h5 : (sortWorld id w g 0 m d' os).cell? ⟨g, j, none⟩ = (putCells id 0 d' cur)[j]? := by
        simp [World.cell?, hheap]
      rw [← h5, hcell, getElem!_pos d' j (by omega), Array.getElem?_eq_getElem (by omega)]
      rfl
    · rw [List.getElem?_eq_none (by simp; omega), List.getElem?_eq_none (by simp; omega)]
theorem flat_get8 {α : Type} [Inhabited α] (enc : α → List Value) (d : List α) (hk : ∀ x, (enc x).length = 2) (j i : Nat) (hj : j < d.length) (hi : i < 2) : (flatK enc 2 d.toArray)[j * 2 + i]? = (enc d[j])[i]? := by
  have ht : j * 2 + i < d.toArray.size * 2 := by simp; omega
  have h1 := get_flatK enc 2 d.toArray (j * 2 + i) ht
  rw [getElem!_pos _ _ (by rw [size_flatK]; exact ht)] at h1
  rw [Array.getElem?_eq_getElem (by rw [size_flatK]; exact ht), h1]
  have e1 : (j * 2 + i) / 2 = j := by omega
  have e2 : (j * 2 + i) % 2 = i := by omega
  rw [e1, e2, getElem!_pos d.toArray j (by simpa using hj)]
  rw [List.getElem?_eq_getElem (by rw [hk]; exact hi), getElem!_pos _ _ (by rw [hk]; exact hi)]
  simp


set_option maxHeartbeats 1000000 in
theorem iSortF_any (w W : World) (ov : Value) (l : List AtomD) (bss : List (List Nat)) (h : OutInv 83 w W ov l bss) (hsz : l.length ≤ 331776) :
    Calls Tryz.prog 142 #[ov, .func (.func 143) #[] #[]] W (fun e w' => e = .returned (.tuple #[]) ∧ ∃ l' bss', OutInv 83 w w' ov l' bss' ∧ l'.Perm l ∧ l'.Pairwise (fun a b => lessF b a = false) ∧ OnlyAt (blk ov) W w') := by
  have h0 := h
  obtain ⟨⟨cs, h1, h2⟩, h3, h4⟩ := h
  have hcl := h1.len
  rcases h1.form with ⟨rfl, hn⟩ | ⟨g, cap, rfl, _⟩
  · have hl : l = [] := List.eq_nil_of_length_eq_zero hn
    subst hl
    have hS := AnyF.slices_SortFunc_none (P := Tryz.prog) (ρ := laysF_ren) laysF none 0 (.func (.func 143) #[] #[]) W
    change Calls Tryz.prog 142 _ _ _ at hS
    refine hS.mono fun e w' ⟨he, hw⟩ => ?_
    subst hw
    exact ⟨he, [], bss, h0, List.Perm.refl _, List.Pairwise.nil, OnlyAt.refl _ _⟩
  · have hg : ∀ b ∈ bss.flatten, g ≠ b := fun b hb => (List.nodup_append.1 h3).2.2 g (by simp [blk]) b hb
    rcases Nat.eq_zero_or_pos l.length with hz | hpos
    · have hl : l = [] := List.eq_nil_of_length_eq_zero hz
      subst hl
      have hS := AnyF.slices_SortFunc_none (P := Tryz.prog) (ρ := laysF_ren) laysF (some ⟨g, 0, none⟩) cap (.func (.func 143) #[] #[]) W
      change Calls Tryz.prog 142 _ _ _ at hS
      refine hS.mono fun e w' ⟨he, hw⟩ => ?_
      subst hw
      exact ⟨he, [], bss, h0, List.Perm.refl _, List.Pairwise.nil, OnlyAt.refl _ _⟩
    · obtain ⟨d, hd1, hd2⟩ := pairList8 (C := fun v (b : AtomD × List Nat) => (∃ a n c, v = Value.slice a n c) ∧ inI b.1.1 ∧ OInts W v b.1.2 b.2 ∧ g ∉ b.2) (l.zip bss) ((List.range l.length).map (fun j => (cs[j * 2 + 1]?).getD undef)) (by simp [h2.1]) (fun j b hb => by
        obtain ⟨hb1, hb2⟩ := List.getElem?_zip_eq_some.1 hb
        obtain ⟨a, n, c, e0, e1, e2, e3⟩ := h2.2 j b.1 hb1
        have e4 : bss.getD j [] = b.2 := by simp [List.getD, hb2]
        rw [e4] at e3
        have hj : j < l.length := (List.getElem?_eq_some_iff.1 hb1).1
        refine ⟨.slice a n c, by rw [List.getElem?_map, List.getElem?_range hj]; simp [e1], ⟨a, n, c, rfl⟩, e2, e3, fun hm => hg g (List.mem_flatten.2 ⟨b.2, List.mem_of_getElem? hb2, hm⟩) rfl⟩)
      have hdl : d.length = l.length := by
        have := congrArg List.length hd2
        simpa [h2.1] using this
      let β := {p : Value × (AtomD × List Nat) // (∃ a n c, p.1 = Value.slice a n c) ∧ inI p.2.1.1 ∧ OInts W p.1 p.2.1.2 p.2.2 ∧ g ∉ p.2.2}
      haveI : Inhabited β := ⟨d[0]'(by omega)⟩
      let enc : β → List Value := fun p => [.int .i64 p.1.2.1.1, p.1.1]
      have hk : ∀ x : β, (enc x).length = 2 := fun _ => rfl
      have hcell : ∀ (j : Nat) (hj : j < d.length), cs[j * 2 + 1]? = some (d[j]).1.1 ∧ cs[j * 2]? = some (.int .i64 (d[j]).1.2.1.1) := by
        intro j hj
        have q1 : ((List.range l.length).map (fun j => (cs[j * 2 + 1]?).getD undef))[j]? = some (d[j]).1.1 := by rw [← hd1, List.getElem?_map, List.getElem?_eq_getElem hj]; rfl
        have q2 : (l.zip bss)[j]? = some (d[j]).1.2 := by rw [← hd2, List.getElem?_map, List.getElem?_eq_getElem hj]; rfl
        obtain ⟨hb1, hb2⟩ := List.getElem?_zip_eq_some.1 q2
        obtain ⟨a, n, c, e0, e1, e2, e3⟩ := h2.2 j _ hb1
        rw [List.getElem?_map, List.getElem?_range (by omega)] at q1
        simp [e1] at q1
        exact ⟨by rw [e1, q1], e0⟩
      have hH : HoldsK enc 2 W g 0 d.toArray := by
        intro t ht
        rw [size_flatK] at ht
        have ht' : t < d.length * 2 := by simpa using ht
        rw [Nat.zero_add]
        refine ⟨?_, h1.frozen t⟩
        obtain ⟨j, i, hji, hj, hi⟩ : ∃ j i : Nat, t = j * 2 + i ∧ j < d.length ∧ i < 2 := ⟨t / 2, t % 2, by omega, by omega, by omega⟩
        subst hji
        have hf := flat_get8 enc d hk j i hj hi
        rw [h1.cell _ (by omega)]
        have hsz2 : j * 2 + i < (flatK enc 2 d.toArray).size := by rw [size_flatK]; exact ht
        rw [getElem!_pos (flatK enc 2 d.toArray) (j * 2 + i) hsz2]
        rw [Array.getElem?_eq_getElem hsz2] at hf
        obtain ⟨c0, c1⟩ := hcell j hj
        have : i = 0 ∨ i = 1 := by omega
        rcases this with rfl | rfl
        · exact c1.trans hf.symm
        · exact c0.trans hf.symm
      have hS := AnyQ.slices_SortFunc laysF 2 Tryz.isAgg83 Tryz.sizeOf83 enc hk (fun x v hv => by
          obtain ⟨⟨a, n, c, e⟩, _⟩ := x.2
          simp [enc] at hv
          rcases hv with rfl | rfl
          · rfl
          · rw [e]; rfl) (fun x y => cmpF x.1.2.1 y.1.2.1) (cmpF_swo (fun x : β => x.1.2.1)) 143 #[] g 0 cap d.toArray W
        (enters_of Tryz.func143 (by kernel_rfl) rfl)
        (fun m os dk hs x y => by
          have ho := only8_sortWorld id W g 0 m (flatK enc 2 dk) os
          have hx := (x.2.2.2.1.onlyAt ho (fun b hb hm => x.2.2.2.2 (by simp at hm; subst hm; exact hb))).1
          have hy := (y.2.2.2.1.onlyAt ho (fun b hb hm => y.2.2.2.2 (by simp at hm; subst hm; exact hb))).1
          obtain ⟨xa, xn, xc, xe⟩ := x.2.1
          obtain ⟨ya, yn, yc, ye⟩ := y.2.1
          exact iCmpFE_any _ _ _ _ _ ⟨xa, xn, xc, by show Value.agg #[_, x.1.1] = _; rw [xe], x.2.2.1, by rw [← xe]; exact hx⟩ ⟨ya, yn, yc, by show Value.agg #[_, y.1.1] = _; rw [ye], y.2.2.1, by rw [← ye]; exact hy⟩)
        hH h1.lt.2 (by simp; omega)
      change Calls Tryz.prog 142 _ _ _ at hS
      have hsize : d.toArray.size = l.length := by simp [hdl]
      rw [hsize] at hS
      refine hS.mono fun e w' ⟨he, d', m, os, hp, hs, hw⟩ => ?_
      subst hw
      have hd'n : d'.size = l.length := by rw [hp.1, hsize]
      have hperm : d'.toList.Perm d := by
        have := hp.2.2
        have e1 : d'.extract 0 l.length = d' := by rw [← hd'n]; exact Array.extract_size
        have e2 : d.toArray.extract 0 l.length = d.toArray := by rw [← hsize]; exact Array.extract_size
        rw [e1, e2] at this
        simpa using this
      have ho : OnlyAt [g] W (sortWorldK enc 2 W g 0 m d' os) := only8_sortWorld id W g 0 m (flatK enc 2 d') os
      have hB' : BuiltC 83 2 w (sortWorldK enc 2 W g 0 m d' os) (.slice (some ⟨g, 0, none⟩) l.length cap) l.length (flatK enc 2 d').toList := h1.sorted8 (flatK enc 2 d.toArray) (flatK enc 2 d') hH (by simp [hdl]) (by simp [hd'n]) m os
      have hl1 : d.map (fun p => p.1.2.1) = l := by
        have e1 := congrArg (List.map Prod.fst) hd2
        rw [List.map_map, List.map_fst_zip (by rw [h2.1]; exact Nat.le_refl _)] at e1
        exact e1
      have hl2 : d.map (fun p => p.1.2.2) = bss := by
        have e1 := congrArg (List.map Prod.snd) hd2
        rw [List.map_map, List.map_snd_zip (by rw [h2.1]; exact Nat.le_refl _)] at e1
        exact e1
      have hp1 : (d'.toList.map (fun p => p.1.2.1)).Perm l := by
        have := hperm.map (fun p => p.1.2.1)
        rwa [hl1] at this
      have hp2 : (d'.toList.map (fun p => p.1.2.2)).flatten.Perm bss.flatten := by
        have := (hperm.map (fun p => p.1.2.2)).flatten
        rwa [hl2] at this
      refine ⟨he, d'.toList.map (fun p => p.1.2.1), d'.toList.map (fun p => p.1.2.2), ⟨⟨(flatK enc 2 d').toList, by rw [hp1.length_eq]; exact hB', by simp, fun j x hx => ?_⟩, ((List.Perm.append_left _ hp2).nodup_iff).2 h3, fun b hb => ⟨(h4 b (hp2.mem_iff.1 hb)).1, Nat.lt_of_lt_of_le (h4 b (hp2.mem_iff.1 hb)).2 ho.size⟩⟩, hp1, ?_, ho⟩
      · rw [List.getElem?_map, Option.map_eq_some_iff] at hx
        obtain ⟨p, hp0, rfl⟩ := hx
        obtain ⟨hj, hpe⟩ := List.getElem?_eq_some_iff.1 hp0
        have f0 := flat_get8 enc d'.toList hk j 0 hj (by omega)
        have f1 := flat_get8 enc d'.toList hk j 1 hj (by omega)
        rw [Array.toArray_toList, hpe] at f0 f1
        obtain ⟨⟨a, n, c, e1⟩, e5, e2, e3⟩ := p.2
        have e4 : (d'.toList.map (fun p => p.1.2.2)).getD j [] = p.1.2.2 := by rw [List.getD_eq_getElem?_getD, List.getElem?_map, hp0]; rfl
        rw [e4]
        refine ⟨a, n, c, ?_, ?_, e5, ?_⟩
        · rw [Array.getElem?_toList]; rw [Nat.add_zero] at f0; rw [f0]; rfl
        · rw [Array.getElem?_toList, f1, ← e1]; rfl
        · rw [← e1]; exact e2.onlyAt ho (fun b hb hm => e3 (by simp at hm; subst hm; exact hb))
      · rw [List.pairwise_map]
        refine List.pairwise_iff_getElem.2 fun i j hi hj hij => ?_
        have := hs i j (Nat.zero_le _) hij (by simp at hj; omega)
        simp at hi hj
        unfold ltOf at this
        rw [cmpF_neg, getElem!_pos d' j hj, getElem!_pos d' i hi] at this
        simpa using this
end Go.Proofs.YtfojllkkbdpfkaaGreat

/-! I8wk -/
namespace Go.Proofs.YtfojllkkbdpfkaaGreat
open Go Go.Sort Go.RowKit
open Go.ChangeMaps (setBlock)
set_option linter.unusedVariables false

/-- Under way: the entries 'gone' came already, in this order. -/
def Walk8 (P : Program) (k : TypeId) (W : World) (M r : Nat) (es : Array MapEntry) (clock : Nat) (gone : List MapEntry) : Prop :=
  W.heap[M]? = some (.map es clock) ∧ Keyed8 P k es clock ∧ (∃ seen, W.heap[r]? = some (.mapIter (some M) clock seen clock) ∧ seen.toList = gone.map (·.born)) ∧ (gone.map (·.born)).Nodup ∧ ∀ e ∈ gone, e ∈ es.toList
theorem Walk8.grow {P : Program} {k : TypeId} {W W' : World} {M r : Nat} {es : Array MapEntry} {clock : Nat} {gone : List MapEntry} (h : Walk8 P k W M r es clock gone) (hm : W'.heap[M]? = W.heap[M]?) (hr : W'.heap[r]? = W.heap[r]?) : Walk8 P k W' M r es clock gone := by
  obtain ⟨h1, h2, ⟨seen, h3, h4⟩, h5, h6⟩ := h
  exact ⟨hm.trans h1, h2, ⟨seen, hr.trans h3, h4⟩, h5, h6⟩
theorem perm_of_gone8 {es : List MapEntry} {gone : List MapEntry} (hn : (es.map (·.born)).Nodup) (hg : (gone.map (·.born)).Nodup) (hm : ∀ e ∈ gone, e ∈ es) (hall : ∀ e ∈ es, e.born ∈ gone.map (·.born)) : gone.Perm es := by
  refine (List.perm_ext_iff_of_nodup (List.Pairwise.of_map _ (fun a b h e => h (by rw [e])) hg) (List.Pairwise.of_map _ (fun a b h e => h (by rw [e])) hn)).2 (fun e => ⟨hm e, fun he => ?_⟩)
  obtain ⟨g, hgm, hb⟩ := List.mem_map.1 (hall e he)
  obtain ⟨i, hi⟩ := List.mem_iff_getElem?.1 he
  obtain ⟨j, hj⟩ := List.mem_iff_getElem?.1 (hm g hgm)
  obtain ⟨x1, y1⟩ := List.getElem?_eq_some_iff.1 hi
  obtain ⟨x2, y2⟩ := List.getElem?_eq_some_iff.1 hj
  have := (List.getElem_inj (h₀ := by simpa using x1) (h₁ := by simpa using x2) (xs := es.map (·.born)) (i := i) (j := j) hn).1 (by rw [List.getElem_map, List.getElem_map, y1, y2, hb])
  subst this
  rw [y1] at y2; rw [y2]; exact hgm
theorem leftOf_done8 {es : Array MapEntry} {seen : Array Nat} (h : (Go.leftOf es seen).size = 0) : ∀ e ∈ es.toList, e.born ∈ seen.toList := by
  intro e he
  have h1 : Go.leftOf es seen = #[] := Array.eq_empty_of_size_eq_zero h
  unfold Go.leftOf at h1
  rw [Array.filter_eq_empty_iff] at h1
  have := h1 e (by simpa using he)
  simpa using this
theorem leftOf_mem8 {es : Array MapEntry} {seen : Array Nat} {e : MapEntry} (h : e ∈ (Go.leftOf es seen).toList) : e ∈ es.toList ∧ e.born ∉ seen.toList := by
  unfold Go.leftOf at h
  simp at h
  exact ⟨by simpa using h.1, by simpa using h.2⟩
theorem Walk8.entry {P : Program} {k : TypeId} {W : World} {M r : Nat} {es : Array MapEntry} {clock : Nat} {gone : List MapEntry} {e : MapEntry} (h : Walk8 P k W M r es clock (gone ++ [e])) :
    (Instr.entry (.pointer (some ⟨r, 0, none⟩))).run P W = .ok (.tuple #[e.key, e.val]) W := by
  obtain ⟨h1, h2, ⟨seen, h3, h4⟩, h5, h6⟩ := h
  obtain ⟨s0, hs0⟩ : ∃ s0 : Array Nat, seen = s0.push e.born := by
    refine ⟨(gone.map (·.born)).toArray, Array.toList_inj.1 ?_⟩
    rw [h4]; simp
  subst hs0
  exact run_entry_at W r M clock s0 es clock e h3 h1 (h6 e (by simp)) h2.stamped.2.1

section
variable {P : Program} (w : World) {ops : Array Oper} {rest : List Oper} {o : Oper} {a : Act} {Q : Exit → Act → World → Prop}
theorem wpList_range8 (hg : o.guard = none) (m : Operand) (t k e : TypeId) (hop : o.op = Op.range t m) (ht : P.underlying t = some (.map k e)) (M : Nat) (es : Array MapEntry) (clock : Nat)
    (hm : a.eval m = .map (some M)) (hb : w.heap[M]? = some (.map es clock)) (hF : Keyed8 P k es clock)
    (hK : ∀ w', Walk8 P k w' M w.heap.size es clock [] → Below w.heap.size w w' → w'.heap.size = w.heap.size + 1 → wpList P ops Q rest (a.put o.dst (.pointer (some ⟨w.heap.size, 0, none⟩))) w') :
    wpList P ops Q (o :: rest) a w := by
  refine wpList_plain hg fun K' hK' => ?_
  have hrun := run_range_map w t k e M es clock ht hb
  unfold Oper.wp
  simp [execOp, hop, hm, hrun, Result.andThen]
  exact hK' _ _ (hK _ ⟨((below_alloc w _).block _ (Array.getElem?_eq_some_iff.1 hb).1).trans hb, hF, ⟨#[], heap_alloc_new w _, rfl⟩, List.Pairwise.nil, fun e he => by cases he⟩ (below_alloc w _) (by simp))
theorem wpList_next8 (hg : o.guard = none) (it : Operand) (hop : o.op = Op.next it false) (k : TypeId) (M r : Nat) (es : Array MapEntry) (clock : Nat) (gone : List MapEntry)
    (hit : a.eval it = .pointer (some ⟨r, 0, none⟩)) (hne : M ≠ r) (h : Walk8 P k w M r es clock gone)
    (hDone : gone.Perm es.toList → wpList P ops Q rest (a.put o.dst (.tuple #[.bool false])) w)
    (hMore : ∀ (e : MapEntry) (w' : World), e ∈ es.toList → gone.length < es.toList.length → Walk8 P k w' M r es clock (gone ++ [e]) → OnlyAt [r] w w' → wpList P ops Q rest (a.put o.dst (.tuple #[.bool true, e.key, e.val])) w') :
    wpList P ops Q (o :: rest) a w := by
  obtain ⟨h1, h2, ⟨seen, h3, h4⟩, h5, h6⟩ := h
  refine wpList_plain hg fun K' hK' => ?_
  unfold Oper.wp
  rcases run_next_at (P := P) w o.type r M clock clock seen es clock h3 h1 h2.stamped.1 (Nat.le_refl _) with ⟨h0, hrun⟩ | ⟨e, he, w1, hw1, hrun⟩
  · simp [execOp, hop, hit, hrun, Result.andThen]
    exact hK' _ _ (hDone (perm_of_gone8 h2.stamped.2.1 h5 h6 (fun e he => by rw [← h4]; exact leftOf_done8 h0 e he)))
  · simp [execOp, hop, hit, hrun, Result.andThen]
    obtain ⟨he1, he2⟩ := leftOf_mem8 he
    have hw : w1.heap = w.heap ∧ w1.os = w.os ∧ w1.tape = w.tape ∧ w1.output = w.output := by
      rcases hw1 with rfl | rfl <;> exact ⟨rfl, rfl, rfl, rfl⟩
    obtain ⟨e1, e2, e3, e4⟩ := hw
    have hon : OnlyAt [r] w (setBlock w1 r (.mapIter (some M) clock (seen.push e.born) clock)) :=
      ⟨e2, e3, e4, by simp [setBlock, e1], fun j _ hn => by simp [setBlock, e1, show ¬ r = j from fun e => hn (by simp [e])]⟩
    rw [h4] at he2
    have hnd : ((gone ++ [e]).map (·.born)).Nodup := by
      rw [List.map_append, List.nodup_append]
      exact ⟨h5, by simp, fun x hx y hy e => by simp at hy; subst hy; subst e; exact he2 hx⟩
    have hsub : ∀ x ∈ gone ++ [e], x ∈ es.toList := fun x hx => by
      rcases List.mem_append.1 hx with h | h
      · exact h6 x h
      · rw [List.mem_singleton.1 h]; exact he1
    refine hK' _ _ (hMore e _ he1 ?_ ⟨(hon.block M (Array.getElem?_eq_some_iff.1 h1).1 (by simpa using hne)).trans h1, h2, ⟨seen.push e.born, ?_, by simp [h4]⟩, hnd, hsub⟩ hon)
    · have := List.Nodup.length_le_of_subset hnd (l₂ := es.toList.map (·.born)) (fun x hx => by
        obtain ⟨y, hy, rfl⟩ := List.mem_map.1 hx
        exact List.mem_map.2 ⟨y, hsub y hy, rfl⟩)
      simp at this
      simp; omega
    · simp [setBlock, e1, (Array.getElem?_eq_some_iff.1 h3).1]
end

def goneOf8 (W : World) (r : Nat) (n : Nat) : Nat := match W.heap[r]? with | some (.mapIter _ _ seen _) => n - seen.size | _ => 0
theorem Walk8.meas {P : Program} {k : TypeId} {W : World} {M r : Nat} {es : Array MapEntry} {clock : Nat} {gone : List MapEntry} (h : Walk8 P k W M r es clock gone) : goneOf8 W r es.size = es.size - gone.length := by
  obtain ⟨_, _, ⟨seen, h3, h4⟩, _⟩ := h
  unfold goneOf8
  rw [h3]
  have := congrArg List.length h4
  simp at this
  simp [this]
/-- A world of just the blocks below a bound. -/
theorem virt8 (w : World) (B : Nat) (h : B ≤ w.heap.size) : ∃ W : World, W.heap.size = B ∧ Below W.heap.size W w := by
  refine ⟨{ w with heap := w.heap.extract 0 B }, by simp; omega, rfl, rfl, rfl, by simp; omega, fun k hk => ?_⟩
  simp at hk
  simp [Array.getElem?_extract]
  omega
theorem OutInv.rebase8 {E : TypeId} {W W' w w' : World} {v : Value} {l : List AtomD} {bss : List (List Nat)} {bs' : List Nat} (h : OutInv E W w v l bss) (hW : W'.heap.size ≤ W.heap.size) (hb : Below W'.heap.size W' w') (ko : OnlyAt bs' w w') (hv : ∀ b ∈ blk v, b ∉ bs') (hn : ∀ b ∈ bss.flatten, b ∉ bs') : OutInv E W' w' v l bss := by
  obtain ⟨⟨cs, h1, h2, h3⟩, h6, h7⟩ := h
  refine ⟨⟨cs, ⟨⟨h1.1.1, ?_⟩, hb⟩, h2, fun j d hd => ?_⟩, h6, fun b hm => ⟨Nat.le_trans hW (h7 b hm).1, Nat.lt_of_lt_of_le (h7 b hm).2 ko.size⟩⟩
  · rcases h1.1.2 with h4 | ⟨g, cap, cur, rfl, h4, hg, h5⟩
    · exact .inl h4
    · exact .inr ⟨g, cap, cur, rfl, Nat.le_trans hW h4, by rw [ko.block g (Array.getElem?_eq_some_iff.1 hg).1 (hv g (by simp [blk]))]; exact hg, h5⟩
  · obtain ⟨a, n, c, e1, e2, e3, e4⟩ := h3 j d hd
    exact ⟨a, n, c, e1, e2, e3, e4.onlyAt ko (fun x hx => hn x (getD_mem_flatten hx))⟩
theorem OutInv.blk_lo8 {E : TypeId} {W w : World} {v : Value} {l : List AtomD} {bss : List (List Nat)} (h : OutInv E W w v l bss) : ∀ b ∈ blk v, W.heap.size ≤ b ∧ b < w.heap.size := by
  obtain ⟨⟨cs, h1, _⟩, _⟩ := h
  intro b hb
  rcases h1.form with ⟨rfl, _⟩ | ⟨g, cap, rfl, _⟩
  · simp [blk] at hb
  · simp [blk] at hb; subst hb; exact h1.lt

/-- A list of facts built by append, in blocks from B on. -/
def OutF (B : Nat) (w : World) (v : Value) (l : List AtomD) (bss : List (List Nat)) : Prop := ∃ W, W.heap.size = B ∧ OutInv 83 W w v l bss
theorem OutF.only {B : Nat} {w w' : World} {v : Value} {l : List AtomD} {bss : List (List Nat)} {bs : List Nat} (h : OutF B w v l bss) (ko : OnlyAt bs w w') (hb : ∀ b ∈ bs, b < B) : OutF B w' v l bss := by
  obtain ⟨W, hW, h⟩ := h
  obtain ⟨W', e1, e2⟩ := virt8 w' B (by have := h.below.size; have := ko.size; omega)
  exact ⟨W', e1, h.rebase8 (by omega) e2 ko (fun b hm hn => by have := (h.blk_lo8 b hm).1; have := hb b hn; omega) (fun b hm hn => by have := (h.2.2 b hm).1; have := hb b hn; omega)⟩
theorem OutF.to {B : Nat} {w0 w : World} {v : Value} {l : List AtomD} {bss : List (List Nat)} (h : OutF B w v l bss) (hB : w0.heap.size ≤ B) (hb : Below w0.heap.size w0 w) : OutInv 83 w0 w v l bss := by
  obtain ⟨W, hW, h⟩ := h
  exact h.rebase8 (by omega) hb (OnlyAt.refl [] w) (fun b _ hm => by simp at hm) (fun b _ hm => by simp at hm)
theorem OutF.nil (w : World) : OutF w.heap.size w (.slice none 0 0) [] [] := ⟨w, rfl, OutInv.nil _ w w (Below.refl _ _)⟩
theorem OutF.blk_lo {B : Nat} {w : World} {v : Value} {l : List AtomD} {bss : List (List Nat)} (h : OutF B w v l bss) : ∀ b ∈ blk v, B ≤ b ∧ b < w.heap.size := by
  obtain ⟨W, hW, h⟩ := h
  rw [← hW]; exact h.blk_lo8

/-- The key of an atom; the atom of a key. -/
def pkV (a : AtomD) : Value := packed a.1 a.2.length a.2
def decK : Value → AtomD | .agg c => ((intOf (c.toList.getD 0 undef)), ((c.toList.drop 2).map intOf).take (intOf (c.toList.getD 1 undef)).toNat) | _ => (0, [])
theorem decK_pk {a : AtomD} (h : a.2.length ≤ 3) : decK (pkV a) = a := by
  obtain ⟨r, l⟩ := a
  match l, h with
  | [], _ => rfl
  | [x], _ => rfl
  | [x, y], _ => rfl
  | [x, y, z], _ => rfl
theorem pkV_key {a : AtomD} (hr : inI a.1) (h3 : a.2.length ≤ 3) (hi : ∀ x ∈ a.2, inI x) : ∃ kl, keyOf Tryz.prog 164 (pkV a) = some kl :=
  packKey hr (by unfold inI; omega) (inI_getD hi 0) (inI_getD hi 1) (inI_getD hi 2)
/-- The map's entries are the atoms so far. -/
def AtsOf (w : World) (l : List AtomD) (es : Array MapEntry) : Prop := ∃ ats : List (AtomD × Value), prs8 es = ats.map (fun p => (pkV p.1, p.2)) ∧ (∀ p ∈ ats, RdAtom w p.2 p.1) ∧ (ats.map (·.1)).Nodup ∧ ∀ a, a ∈ ats.map (·.1) ↔ a ∈ l
theorem AtsOf.nil (w : World) : AtsOf w [] #[] := ⟨[], rfl, (fun p hp => by simp at hp), List.Pairwise.nil, (fun a => by simp)⟩
theorem AtsOf.put {w : World} {l : List AtomD} {es es2 : Array MapEntry} {a : AtomD} {val : Value} (h : AtsOf w l es) (h3 : ∀ a ∈ l, a.2.length ≤ 3) (ha : a.2.length ≤ 3) (hv : RdAtom w val a)
    (hput : (∃ j v0, (prs8 es)[j]? = some (pkV a, v0) ∧ prs8 es2 = (prs8 es).set j (pkV a, val)) ∨ ((∀ x ∈ prs8 es, x.1 ≠ pkV a) ∧ prs8 es2 = prs8 es ++ [(pkV a, val)])) : AtsOf w (l ++ [a]) es2 := by
  obtain ⟨ats, h1, h2, hn, hm⟩ := h
  rcases hput with ⟨j, v0, g1, g2⟩ | ⟨g1, g2⟩
  · rw [h1, List.getElem?_map, Option.map_eq_some_iff] at g1
    obtain ⟨q, hq, e⟩ := g1
    obtain ⟨e1, e2⟩ := Prod.mk.inj e
    have hqm := List.mem_of_getElem? hq
    have hql : q.1 ∈ l := (hm q.1).1 (List.mem_map.2 ⟨q, hqm, rfl⟩)
    have e3 : q.1 = a := by have := congrArg decK e1; rwa [decK_pk (h3 _ hql), decK_pk ha] at this
    have hjl := (List.getElem?_eq_some_iff.1 hq).1
    have hmap : (ats.set j (a, val)).map (·.1) = ats.map (·.1) := by
      rw [List.map_set]
      refine List.ext_getElem (by simp) (fun i u v => ?_)
      rw [List.getElem_set]
      split
      · rename_i e; subst e; rw [List.getElem_map, (List.getElem?_eq_some_iff.1 hq).2, e3]
      · rfl
    refine ⟨ats.set j (a, val), by rw [g2, h1, List.map_set], fun p hp => ?_, by rw [hmap]; exact hn, fun x => ?_⟩
    · rcases List.mem_or_eq_of_mem_set hp with h | h
      · exact h2 p h
      · rw [h]; exact hv
    · rw [hmap, hm x, List.mem_append]
      constructor
      · exact .inl
      · rintro (h | h)
        · exact h
        · rw [List.mem_singleton.1 h, ← e3]; exact hql
  · refine ⟨ats ++ [(a, val)], by rw [g2, h1, List.map_append]; rfl, fun p hp => ?_, ?_, fun x => ?_⟩
    · rcases List.mem_append.1 hp with h | h
      · exact h2 p h
      · rw [List.mem_singleton.1 h]; exact hv
    · rw [List.map_append, List.nodup_append]
      refine ⟨hn, by simp, fun x hx y hy e => ?_⟩
      simp at hy
      obtain ⟨p, hp, rfl⟩ := List.mem_map.1 hx
      exact g1 (pkV p.1, p.2) (by rw [h1]; exact List.mem_map.2 ⟨p, hp, rfl⟩) (by rw [e, hy])
    · rw [List.map_append, List.mem_append, List.mem_append, hm x]; simp
theorem AtsOf.at {w : World} {l : List AtomD} {es : Array MapEntry} (h : AtsOf w l es) {e : MapEntry} (he : e ∈ es.toList) : ∃ a ∈ l, e.key = pkV a ∧ RdAtom w e.val a := by
  obtain ⟨ats, h1, h2, _, hm⟩ := h
  have : (e.key, e.val) ∈ prs8 es := List.mem_map.2 ⟨e, he, rfl⟩
  rw [h1] at this
  obtain ⟨p, hp, h⟩ := List.mem_map.1 this
  exact ⟨p.1, (hm p.1).1 (List.mem_map.2 ⟨p, hp, rfl⟩), (congrArg Prod.fst h).symm, by have e2 : p.2 = e.val := congrArg Prod.snd h; rw [← e2]; exact h2 p hp⟩
theorem AtsOf.len {w : World} {l : List AtomD} {es : Array MapEntry} (h : AtsOf w l es) : es.toList.length ≤ l.length := by
  obtain ⟨ats, h1, _, hn, hm⟩ := h
  have e : es.toList.length = (ats.map (·.1)).length := by have := congrArg List.length h1; simpa [prs8] using this
  rw [e]
  exact hn.length_le_of_subset (fun x hx => (hm x).1 hx)
/-- The facts in order are those of the frozen query. -/
theorem facts_fin {w : World} {l : List AtomD} {es : Array MapEntry} (h : AtsOf w l es) (ht : ∀ a ∈ l, termsB a.2 = true) {gone : List MapEntry} (hp : gone.Perm es.toList) {l' : List AtomD} (hl : l'.Perm (gone.map (fun e => fct8 (decK e.key)))) (hs : l'.Pairwise (fun a b => lessF b a = false)) : l' = frzTo l l.length := by
  obtain ⟨ats, h1, h2, hn, hm⟩ := h
  have e1 : es.toList.map (fun e => fct8 (decK e.key)) = (ats.map (·.1)).map fct8 := by
    have : es.toList.map (fun e => fct8 (decK e.key)) = (prs8 es).map (fun kv => fct8 (decK kv.1)) := by unfold prs8; rw [List.map_map]; rfl
    rw [this, h1, List.map_map, List.map_map]
    refine List.map_congr_left (fun p hp => ?_)
    show fct8 (decK (pkV p.1)) = fct8 p.1
    rw [decK_pk (terms_len3 (ht p.1 ((hm p.1).1 (List.mem_map.2 ⟨p, hp, rfl⟩))))]
  have hperm : l'.Perm ((ats.map (·.1)).map fct8) := hl.trans (by rw [← e1]; exact hp.map _)
  have hnd : ((ats.map (·.1)).map fct8).Nodup := by
    refine List.pairwise_map.2 (List.Pairwise.imp_of_mem (fun {a b} ha hb hne e => hne (fct8_inj (ht a ((hm a).1 ha)) (ht b ((hm b).1 hb)) e)) hn)
  obtain ⟨f1, f2, _⟩ := frzTo_ok l l.length (Nat.le_refl _)
  refine strictF_unique (strictF_of hs (hperm.nodup_iff.2 hnd)) f1.strict (fun x => ?_)
  rw [hperm.mem_iff, f2 x, List.take_length]
  constructor
  · intro hx
    obtain ⟨a, ha, e⟩ := List.mem_map.1 hx
    exact ⟨a, (hm a).1 ha, e⟩
  · rintro ⟨a, ha, e⟩
    exact List.mem_map.2 ⟨a, (hm a).2 ha, e⟩
end Go.Proofs.YtfojllkkbdpfkaaGreat

/-! I8fa -/
namespace Go.Proofs.YtfojllkkbdpfkaaGreat
open Go Go.Sort Go.RowKit
open Go.ChangeMaps (setBlock heap_setBlock_same heap_setBlock_other)
set_option linter.unusedVariables false

theorem setBlock_only8 (W : World) (b : Nat) (o : Obj) : OnlyAt [b] W (setBlock W b o) :=
  ⟨rfl, rfl, rfl, by simp [setBlock], fun k _ hn => by simp [setBlock, show ¬ b = k from fun e => hn (by simp [e])]⟩
theorem setBlock_heap8 {W : World} {b : Nat} {o o' : Obj} (h : W.heap[b]? = some o) : (setBlock W b o').heap[b]? = some o' := by
  unfold setBlock; simp [(Array.getElem?_eq_some_iff.1 h).1]
theorem take_snocA {l : List AtomD} {i : Nat} {a : AtomD} (h : l[i]? = some a) : l.take (i + 1) = l.take i ++ [a] := by
  obtain ⟨hi, rfl⟩ := List.getElem?_eq_some_iff.1 h
  exact List.take_succ_eq_append_getElem hi

set_option maxRecDepth 100000 in
set_option maxHeartbeats 16000000 in
theorem iFacts8_any (w : World) (M : Nat) (v : Value) (l : List AtomD) (ts : List Int) (h : RdAtomS w v l) (hF : FT w M ts) (hin : ∀ a ∈ l, ∀ t ∈ a.2, t ∈ ts) (ht : ∀ a ∈ l, termsB a.2 = true) (h8 : l.length ≤ 8) :
    Calls Tryz.prog 92 #[.map (some M), v] w (GaveO (fun w' v' bs => ROAtomS w' v' (frzTo l l.length) bs) w) := by
  obtain ⟨a, n, cap, rfl, hr⟩ := h
  obtain ⟨hl, hnc, hm, hcell⟩ := hr.at
  unfold maxLen at hm
  rw [hl] at h8
  have HL := Lib.hid hl
  have HC := Lib.hid hcell
  have HF := Lib.hid hF
  have HIN := Lib.hid hin
  have HTE := Lib.hid ht
  have H3 : Hid (∀ a ∈ l, a.2.length ≤ 3) := fun a ha => terms_len3 (ht a ha)
  have HPK := Lib.hid (fun w r v l h => iPack_any w r v l h)
  have HVA := Lib.hid (fun w v l h hF hin ht => iValues_any w M v l ts h hF hin ht)
  have hMw : M < w.heap.size := hF.lt
  have hmm := @run_makeMap Tryz.prog
  clear hr hcell hl hF hin ht
  go_enter Tryz.func92, Tryz.ntmps92
  go_wp2_with fail
  clear hmm
  have HB0 := Lib.hid (below_alloc w (.map #[] 0))
  have HM0 : Hid ((w.alloc (.map #[] 0)).heap[w.heap.size]? = some (.map #[] 0)) := heap_alloc_new w _
  obtain ⟨B, hB⟩ : ∃ x, x = w.heap.size := ⟨_, rfl⟩
  have HBS := Lib.hid hB
  rw [← hB] at HM0
  simp only [← hB]
  generalize (w.alloc (.map #[] 0)) = W at *
  clear hB
  go_loopw [14] (fun iv wr => ∃ i : Nat, i ≤ n ∧ iv = .int .i64 i ∧ ∃ es clock, Hid (wr.heap[B]? = some (.map es clock)) ∧ Hid (Keyed8 Tryz.prog 164 es clock) ∧ Hid (AtsOf w (l.take i) es) ∧ Hid (Below w.heap.size w wr) ∧ Hid (B < wr.heap.size)) (fun iv _ => n - (intOf iv).toNat)
  case atStart => exact ⟨0, by omega, rfl, #[], 0, HM0, Lib.hid (Keyed8.empty _ _ _), Lib.hid (AtsOf.nil w), HB0, Lib.hid (Array.getElem?_eq_some_iff.1 HM0.out).1⟩
  case round =>
    obtain ⟨i, hi, rfl, es, clock, HM, HK, HA, HB, HBL⟩ := hrel
    by_cases hlt : i < n
    · obtain ⟨b, off, rfl, hbw, hc⟩ := HC.out (by omega)
      obtain ⟨e, hd⟩ : ∃ e, l[i]? = some e := ⟨l[i]'(by rw [HL.out]; exact hlt), List.getElem?_eq_getElem (by rw [HL.out]; exact hlt)⟩
      obtain ⟨ea, em, ec, c0, c1, hdi, hints⟩ := atomAt (n := n) hc i e hd
      have r0 := cellk HB.out c0
      have r1 := cellk HB.out c1
      have hi0 : (0 : Int) ≤ i := by omega
      have hi1 : (i : Int) < n := by omega
      have hel : e ∈ l := List.mem_of_getElem? hd
      have he3 := H3.out e hel
      have HTK := Lib.hid (take_snocA hd)
      have HVAL : Hid (RdAtom w (.agg #[.int .i64 e.1, .slice ea em ec]) e) := ⟨ea, em, ec, rfl, hdi, hints⟩
      obtain ⟨kl, hkl⟩ := pkV_key hdi he3 hints.1
      have HKL := Lib.hid hkl
      have HNEW := Lib.hid (fun es2 h => AtsOf.put (es2 := es2) HA.out (fun a ha => H3.out a (List.mem_of_mem_take ha)) he3 HVAL.out h)
      have HPA := Lib.hid (fun w0 (hb : Below w.heap.size w w0) => HPK.out w0 e.1 (.slice ea em ec) e.2 (hints.below hb))
      have HPE : Hid (packed e.1 e.2.length e.2 = pkV e) := rfl
      rw [HPE.out] at HPA
      generalize pkV e = kv at *
      generalize e.1 = r at *
      clear hc hbw c0 c1 hints hdi hel he3 hkl HVAL hd
      go_wp2_with fail
      have HBx := Lib.hid (below_alloc wr (.cells #[.int .i64 r, .slice ea em ec] 119))
      have k0 : (wr.alloc (.cells #[.int .i64 r, .slice ea em ec] 119)).cell? ⟨wr.heap.size, 0, none⟩ = some (.int .i64 r) := by simp
      have k1 : (wr.alloc (.cells #[.int .i64 r, .slice ea em ec] 119)).cell? ⟨wr.heap.size, 1, none⟩ = some (.slice ea em ec) := by simp
      have HMx : Hid ((wr.alloc (.cells #[.int .i64 r, .slice ea em ec] 119)).heap[B]? = some (.map es clock)) := (HBx.out.block B HBL.out).trans HM.out
      have HBWx := Lib.hid (bnext HB.out HBx.out)
      generalize (wr.alloc (.cells #[.int .i64 r, .slice ea em ec] 119)) = wx at *
      have hbl2 := HBL.out
      have hsx := HBx.out.size
      go_region_law (go_simp; go_at_call 141; refine (HPA.out _ (bnext HBWx.out ((Below.refl _ _).drew))).mono ?_; rintro e2 w2 ⟨rfl, hb2⟩; have HB2 := Lib.hid (bnext (Below.refl wx.heap.size wx).drew hb2); have HM2 : Hid (w2.heap[B]? = some (.map es clock)) := (HB2.out.block B (by omega)).trans HMx.out; replace k0 := cellk HB2.out k0; replace k1 := cellk HB2.out k1; clear hb2; obtain ⟨es2, clock2, hrun, hk2, hput⟩ := put_law (val := .agg #[.int .i64 r, .slice ea em ec]) packLaw Tryz.underlying162 HM2.out HK.out HKL.out; have HPUT := Lib.hid hput; have HK2 := Lib.hid hk2; clear hput hk2)
      all_goals (go_wp2_with fail)
      all_goals exact ⟨⟨i + 1, by omega, by simp, es2, clock2, Lib.hid (setBlock_heap8 HM2.out), HK2, by rw [HTK.out]; exact HNEW.out es2 HPUT.out, Lib.hid (OnlyAt.below (bnext HBWx.out HB2.out) (setBlock_only8 _ _ _) (fun x hx => by simp at hx; rw [hx, HBS.out]; exact Nat.le_refl _)), by have := HB2.out.size; exact Lib.hid (by simp [setBlock]; omega)⟩, by simp [intOf]; omega⟩
    · obtain rfl : i = n := by omega
      have HAL : Hid (AtsOf w l es) := by
        have h := HA.out
        rw [List.take_of_length_le (by rw [HL.out]; exact Nat.le_refl _)] at h
        exact h
      have HESL : Hid (es.toList.length ≤ 8) := by have := HAL.out.len; have := HL.out; exact Lib.hid (by omega)
      have h1' := HM.out
      have hk' := HK.out
      have hBl := HBL.out
      clear hlt HA
      go_wp2_with ((with_reducible refine wpList_range8 _ rfl _ _ _ _ rfl Tryz.underlying162 _ es clock rfl h1' hk' ?_); (intro w6 hwk hb6 hs6))
      go_simp
      obtain ⟨r, hr⟩ : ∃ r, r = wr.heap.size := ⟨_, rfl⟩
      rw [← hr] at hwk ⊢
      have hBr : B ≠ r := by omega
      have hBr2 : B < r := by omega
      have hrs : r < w6.heap.size := by omega
      have hwr' : w.heap.size ≤ r := by have := HB.out.size; omega
      have HB6 := Lib.hid (bnext HB.out hb6)
      clear hr hb6 hs6 h1' hk' hBl
      go_loopw [8] (fun ov wq => ∃ gone bss, Walk8 Tryz.prog 164 wq B r es clock gone ∧ OutF w6.heap.size wq ov (gone.map (fun e => fct8 (decK e.key))) bss ∧ OnlyAt [r] w6 wq)
        (fun _ wq => goneOf8 wq r es.size)
      case atStart => exact ⟨[], [], hwk, OutF.nil w6, OnlyAt.refl _ _⟩
      case round =>
        obtain ⟨gone, bss, hwq, hout, hon⟩ := hrel
        obtain ⟨wq, hwq'⟩ : ∃ x, x = wr := ⟨_, rfl⟩
        subst hwq'
        go_wp2_with ((with_reducible refine wpList_next8 _ rfl _ rfl 164 B r es clock gone rfl hBr hwq ?_ ?_))
        · intro hperm
          have hb67 : Below w.heap.size w wq := OnlyAt.below HB6.out hon (by intro x hx; simp at hx; omega)
          have hlen : (gone.map (fun e => fct8 (decK e.key))).length ≤ 331776 := by rw [List.length_map, hperm.length_eq]; have := HESL.out; omega
          have hSO := Lib.hid (iSortF_any w wq _ _ _ (hout.to HB6.out.size hb67) hlen)
          have HP := Lib.hid hperm
          clear hperm hb67 hlen hout hon hwq
          go_wp2_with fail
          refine hSO.out.mono ?_
          rintro e w8 ⟨rfl, l', bss', ho, hp, hs, ko⟩
          have HFN : Hid (l' = frzTo l l.length) := facts_fin HAL.out HTE.out HP.out hp hs
          obtain ⟨bs, b1, b2⟩ := ho.done
          rw [HFN.out] at b1
          have HB1 := Lib.hid b1
          have HB2 := Lib.hid b2
          have HBW := Lib.hid ho.below
          clear ho hp hs ko b1 b2
          go_wp2_with fail
          go_ret
          exact ⟨_, bs, rfl, HB1.out, HB2.out, HBW.out⟩
        · intro e w7 he hlt hw7 ho7
          obtain ⟨e0, hal, ek, hrd⟩ := HAL.out.at (by simpa using he)
          have hen := hw7.entry
          obtain ⟨ea, em, ec, ev, hdi, hints⟩ := hrd
          have HD : Hid (fct8 (decK e.key) = fct8 e0) := by unfold Hid; rw [ek, decK_pk (H3.out e0 hal)]
          rw [ek, ev] at hen ⊢
          generalize pkV e0 = kv at hen ⊢
          have hout7 := Lib.hid (hout.only ho7 (by simpa using hrs))
          have HON7 := Lib.hid (hon.same ho7)
          have HB7 : Hid (Below w.heap.size w w7) := OnlyAt.below HB6.out HON7.out (by intro x hx; simp at hx; omega)
          have HW7 := Lib.hid hw7
          have HWR := Lib.hid hwq
          have HLT := Lib.hid hlt
          have HDI := Lib.hid hdi
          have HV7 := Lib.hid (fun w0 (hb : Below w7.heap.size w7 w0) => HVA.out w0 (.slice ea em ec) e0.2 (hints.below (bnext HB7.out hb)) (HF.out.below (bnext HB7.out hb)) (HIN.out e0 hal) (HTE.out e0 hal))
          obtain ⟨W0, hW0, hoc⟩ := hout7.out
          obtain ⟨cs, hc1, hc2⟩ := hoc.parts
          have HW0 := Lib.hid hW0
          have HOC := Lib.hid hoc
          have HC1 := Lib.hid hc1
          have HC2 := Lib.hid hc2
          obtain ⟨ov, hov⟩ : ∃ ov, ov = u8 := ⟨_, rfl⟩
          rw [← hov] at HOC HC1 ⊢
          obtain ⟨L, hL⟩ : ∃ L, L = gone.map (fun e => fct8 (decK e.key)) := ⟨_, rfl⟩
          rw [← hL] at HOC HC1 HC2
          have HL8 := Lib.hid hL
          have hN : L.length + 1 ≤ 1099511627776 := by
            have := HLT.out; have := HESL.out; have e1 : es.toList.length = es.size := Array.length_toList; rw [hL, List.length_map]; omega
          have HE0 : Hid (fct8 e0 = (e0.1, e0.2.map val8)) := rfl
          rw [HE0.out] at HD
          generalize e0.2.map val8 = vl at *
          generalize e0.1 = rr at *
          clear hw7 hdi hlt ho7 hout hon hwq hal ek ev he hints hoc hc1 hc2 hW0 hout7 hov hL
          go_wp2_with fail
          have HBx := Lib.hid (below_alloc w7 (.cells #[.int .i64 rr, .slice ea em ec] 119))
          have k0 : (w7.alloc (.cells #[.int .i64 rr, .slice ea em ec] 119)).cell? ⟨w7.heap.size, 0, none⟩ = some (.int .i64 rr) := by simp
          have k1 : (w7.alloc (.cells #[.int .i64 rr, .slice ea em ec] 119)).cell? ⟨w7.heap.size, 1, none⟩ = some (.slice ea em ec) := by simp
          have hsx := HBx.out.size
          clear hen
          generalize (w7.alloc (.cells #[.int .i64 rr, .slice ea em ec] 119)) = wx at *
          go_region_law (first
            | (refine step_app1D (by rfl) (.tmp 29) (.tmp 37) 40 (by rfl) 83 (.agg #[.int .i64 0, .slice none 0 0]) 2 32 Tryz.underlying40 info_Fact (by decide) (by decide) (by rfl) ov L.length cs (by rfl) (HC1.out.grow (bnext HB9.out (below_alloc w9 _))) w9.heap.size [.int .i64 rr, .slice va vn vc] (by rfl) (by simp [Value.oneCell']) (by rfl) (heap_alloc_new w9 _) hN ?_; intro g' cap' w10 hown' ko hbl; have HNEW := Lib.hid (OutInv.step HOC.out HC1.out HC2.out HB9.out (below_alloc w9 _) HOB.out HFB.out HDI.out hown' ko (fun b hb => (hbl b hb).imp id (fun e => by rw [e]; exact Nat.le_refl _))); have HKO := Lib.hid ko; clear hown' ko hbl)
            | (go_simp; go_at_call 93; refine (HV7.out _ (bnext HBx.out ((Below.refl _ _).drew))).mono ?_; rintro e9 w9 ⟨vb, bsb, rfl, hob, hfb, hbb⟩; obtain ⟨va, vn, vc, rfl⟩ := hob.1.shape; have HBX9 := Lib.hid (bnext (Below.refl wx.heap.size wx).drew hbb); have HB9 := Lib.hid (bnext HBx.out HBX9.out); have HOB := Lib.hid hob; have HFB := Lib.hid (hfb.wide hsx (Nat.le_refl _) : Fresh w7 w9 bsb); replace k0 := cellk HBX9.out k0; replace k1 := cellk HBX9.out k1; clear hob hfb hbb))
          all_goals (go_wp2_with fail)
          all_goals (try simp only [List.getElem_toArray, List.getElem_cons_succ, List.getElem_cons_zero, Act.put])
          all_goals (try go_simp)
          all_goals
            have hbf := HOC.out.blk_lo8
            have hnot : ∀ k, k < w6.heap.size → k ∉ blk ov := fun k hk hm => by have := (hbf k hm).1; have := HW0.out; omega
            have hb9a := bnext HB9.out (below_alloc w9 (.cells #[.int .i64 rr, .slice va vn vc] 83))
            have hs7 := HON7.out.size
            have hkeep : ∀ k, k < w6.heap.size → w10.heap[k]? = w7.heap[k]? := fun k hk =>
              (HKO.out.block k (by have := hb9a.size; omega) (hnot k hk)).trans (hb9a.block k (by omega))
            have hnew : Walk8 Tryz.prog 164 w10 B r es clock (gone ++ [e]) := HW7.out.grow (hkeep _ (by omega)) (hkeep _ hrs)
            have hon10 := (HON7.out.same (OnlyAt.ofBelow _ hb9a)).above HKO.out (fun b hm => by have := (hbf b hm).1; have := HW0.out; omega)
            refine ⟨⟨gone ++ [e], hnew, ⟨bss ++ [bsb], ?_⟩, hon10⟩, ?_⟩
            · rw [List.map_append, ← HL8.out]
              simp only [List.map_cons, List.map_nil]
              rw [HD.out]
              exact ⟨W0, HW0.out, HNEW.out⟩
            · rw [hnew.meas, HWR.out.meas]
              have := HLT.out
              simp at *
              omega
end Go.Proofs.YtfojllkkbdpfkaaGreat

/-! I8fr -/
namespace Go.Proofs.YtfojllkkbdpfkaaGreat
open Go Go.Sort Go.RowKit
set_option linter.unusedVariables false

/-- Facts and a head in memory of their own. -/
def GaveFzO (w : World) (l : List AtomD) (h : List Int) (e : Ending) (w' : World) : Prop := ∃ r0 r1 bs0 bs1, e = .returned (.tuple #[r0, r1]) ∧ ROAtomS w' r0 l bs0 ∧ ROIntS w' r1 h bs1 ∧ Fresh w w' (bs0 ++ bs1) ∧ Below w.heap.size w w'
theorem fresh_app {w w1 w2 : World} {bs1 bs2 : List Nat} (h1 : Fresh w w1 bs1) (h2 : Fresh w1 w2 bs2) (hs : w.heap.size ≤ w1.heap.size) (hs2 : w1.heap.size ≤ w2.heap.size) : Fresh w w2 (bs1 ++ bs2) ∧ Fresh w w2 (bs2 ++ bs1) := by
  refine ⟨⟨List.nodup_append.2 ⟨h1.1, h2.1, fun x hx y hy e => ?_⟩, fun b hb => ?_⟩, ⟨List.nodup_append.2 ⟨h2.1, h1.1, fun x hx y hy e => ?_⟩, fun b hb => ?_⟩⟩
  · have := h1.2 x hx; have := h2.2 y hy; omega
  · rcases List.mem_append.1 hb with h | h
    · have := h1.2 b h; omega
    · have := h2.2 b h; omega
  · have := h2.2 x hx; have := h1.2 y hy; omega
  · rcases List.mem_append.1 hb with h | h
    · have := h2.2 b h; omega
    · have := h1.2 b h; omega
theorem oints_RO {w : World} {v : Value} {l : List Int} {bs : List Nat} (h : OInts w v l bs) : ROIntS w v l bs := by
  obtain ⟨a, n, c, rfl⟩ := h.1.shape; exact ⟨a, n, c, rfl, h⟩
theorem gaveFz_nil (w0 w : World) (hb : Below w0.heap.size w0 w) (d : QueryD) (h : frzOk d = false) : GaveFzO w0 (frzDb d) (frzHd d) (.returned (.tuple #[.slice none 0 0, .slice none 0 0])) w := by
  obtain ⟨bs, h1, h2⟩ := (OutInv.nil 83 w w (Below.refl _ _)).done
  obtain ⟨bs2, h3, h4, h5⟩ := OInts.ofBuilt (E := 3) (w0 := w) (w := w) (v := .slice none 0 0) (l := []) ⟨World.ownsRow_nil _ _ _ _, Below.refl _ _⟩ (fun x hx => by simp at hx)
  have e1 : bs = [] := by
    cases bs with
    | nil => rfl
    | cons b bs => have := h2.2 b (by simp); omega
  have e2 : bs2 = [] := by
    cases bs2 with
    | nil => rfl
    | cons b bs => have := h5 b (by simp); omega
  subst e1; subst e2
  exact ⟨_, _, [], [], rfl, by rw [frzDb_no h]; exact h1, by rw [frzHd_no h]; exact oints_RO h3, ⟨by simp, fun b hb => by simp at hb⟩, hb⟩

set_option maxRecDepth 100000 in
set_option maxHeartbeats 8000000 in
theorem iFreeze_any (w : World) (v : Value) (d : QueryD) (h : RdQuery w v d) :
    Calls Tryz.prog 50 #[v] w (GaveFzO w (frzDb d) (frzHd d)) := by
  obtain ⟨ha, hn, hc, ba, bn, bc, rfl, h1, h2⟩ := h
  have HQ : Hid (RdQuery w (.agg #[.slice ha hn hc, .slice ba bn bc]) d) := ⟨ha, hn, hc, ba, bn, bc, rfl, h1, h2⟩
  have HAQ := Lib.hid (fun w M v d h hF => iAddQuery_any w M v d h hF)
  have HFA := Lib.hid (fun w M v l ts h hF hin ht h8 => iFacts8_any w M v l ts h hF hin ht h8)
  have HVA := Lib.hid (fun w M v l ts h hF hin ht => iValues_any w M v l ts h hF hin ht)
  have HRB : Hid (RdAtomS w (.slice ba bn bc) d.2) := ⟨ba, bn, bc, rfl, h2⟩
  have HRH := Lib.hid h1
  have hmm := @run_makeMap Tryz.prog
  clear h1 h2
  go_enter Tryz.func50, Tryz.ntmps50
  go_wp2_with fail
  clear hmm
  have q0 : ((w.alloc (.cells #[.slice ha hn hc, .slice ba bn bc] 38)).alloc (.map #[] 0)).cell? ⟨w.heap.size, 0, none⟩ = some (.slice ha hn hc) := by simp
  have q1 : ((w.alloc (.cells #[.slice ha hn hc, .slice ba bn bc] 38)).alloc (.map #[] 0)).cell? ⟨w.heap.size, 1, none⟩ = some (.slice ba bn bc) := by simp
  have HF0 : Hid (FT ((w.alloc (.cells #[.slice ha hn hc, .slice ba bn bc] 38)).alloc (.map #[] 0)) (w.heap.size + 1) []) := by
    have := World.ownsMap_made (H := Unit) (w.alloc (.cells #[.slice ha hn hc, .slice ba bn bc] 38)) Tryz.prog 3 (plainElem Tryz.prog 3)
    have e : (w.alloc (.cells #[.slice ha hn hc, .slice ba bn bc] 38)).heap.size = w.heap.size + 1 := by simp
    rw [e] at this
    exact this
  have HBW : Hid (Below w.heap.size w ((w.alloc (.cells #[.slice ha hn hc, .slice ba bn bc] 38)).alloc (.map #[] 0))) := Lib.hid ((below_alloc w (.cells #[.slice ha hn hc, .slice ba bn bc] 38)).trans ((below_alloc (w.alloc (.cells #[.slice ha hn hc, .slice ba bn bc] 38)) (.map #[] 0)).mono (by simp)))
  obtain ⟨B, hB⟩ : ∃ x, x = w.heap.size := ⟨_, rfl⟩
  obtain ⟨M, hM⟩ : ∃ x, x = w.heap.size + 1 := ⟨_, rfl⟩
  rw [← hM] at HF0
  rw [← hB] at q0 q1
  simp only [← hM]
  simp only [← hB]
  generalize ((w.alloc (.cells #[.slice ha hn hc, .slice ba bn bc] 38)).alloc (.map #[] 0)) = W at *
  have hBM : B ≠ M := by omega
  have HMS : Hid (w.heap.size ≤ M) := Lib.hid (by omega)
  clear hB hM
  refine (HAQ.out _ _ _ d (RdQuery.below HQ.out HBW.out) HF0.out).mono ?_
  rintro e w1 ⟨ts, rfl, hf1, hall, ho1⟩
  replace q0 := ho1.cell (by simpa using hBM) q0
  replace q1 := ho1.cell (by simpa using hBM) q1
  have HB1 : Hid (Below w.heap.size w w1) := Lib.hid (OnlyAt.below HBW.out ho1 (fun x hx => by simp at hx; rw [hx]; exact HMS.out))
  have HF1 := Lib.hid hf1
  have HALL := Lib.hid hall
  clear hf1 hall ho1
  cases hok : frzOk d with
  | false =>
    have HOK := Lib.hid hok
    clear hok
    go_wp2_with fail
    go_ret2
    exact gaveFz_nil w w1 HB1.out d HOK.out
  | true =>
    have HY1 := Lib.hid (frzDb_yes hok)
    have HY2 := Lib.hid (frzHd_yes hok)
    obtain ⟨p1, p2, p3⟩ := frz_parts hok
    obtain ⟨a1, a2⟩ := HALL.out hok
    have HFA1 := Lib.hid (fun w0 (hb : Below w1.heap.size w1 w0) => HFA.out w0 M (.slice ba bn bc) d.2 ts (RdAtomS.below HRB.out (bnext HB1.out hb)) (HF1.out.below hb) a2 p3 p2)
    have HVA1 := Lib.hid (fun w0 (hb : Below w1.heap.size w1 w0) => HVA.out w0 M (.slice ha hn hc) d.1 ts (HRH.out.below (bnext HB1.out hb)) (HF1.out.below hb) a1 p1)
    rw [← HY1.out] at HFA1
    rw [← HY2.out] at HVA1
    have hsz := HB1.out.size
    clear p1 p2 p3 a1 a2 hok HY1 HY2 HALL
    go_wp2_with fail
    go_region_law (first
      | (go_simp; go_at_call 92; refine (HFA1.out _ ((Below.refl _ _).drew)).mono ?_; rintro e2 w2 ⟨va, bsa, rfl, hoa, hfa, hba⟩; have HBa := Lib.hid (bnext (Below.refl w1.heap.size w1).drew hba); have HOa := Lib.hid hoa; have HFa := Lib.hid (hfa : Fresh w1 w2 bsa); replace q0 := cellk HBa.out q0; replace q1 := cellk HBa.out q1; clear hoa hfa hba)
      | (go_simp; go_at_call 93; refine (HVA1.out _ HBa.out).mono ?_; rintro e3 w3 ⟨vv, bsv, rfl, hov, hfv, hbv⟩; have HOA := Lib.hid (HOa.out.below hbv); have HOV := Lib.hid (oints_RO hov); have HFR := Lib.hid ((fresh_app HFa.out hfv HBa.out.size hbv.size).1.wide hsz (Nat.le_refl _) : Fresh w w3 (bsa ++ bsv)); have HBX := Lib.hid (bnext HB1.out (bnext HBa.out hbv)); clear hov hfv hbv)
      | (go_simp; go_at_call 93; refine (HVA1.out _ ((Below.refl _ _).drew)).mono ?_; rintro e2 w2 ⟨vv, bsv, rfl, hov, hfv, hbv⟩; have HBv := Lib.hid (bnext (Below.refl w1.heap.size w1).drew hbv); have HOv := Lib.hid hov; have HFv := Lib.hid (hfv : Fresh w1 w2 bsv); replace q0 := cellk HBv.out q0; replace q1 := cellk HBv.out q1; clear hov hfv hbv)
      | (go_simp; go_at_call 92; refine (HFA1.out _ HBv.out).mono ?_; rintro e3 w3 ⟨va, bsa, rfl, hoa, hfa, hba⟩; have HOA := Lib.hid hoa; have HOV := Lib.hid (oints_RO (HOv.out.below hba)); have HFR := Lib.hid ((fresh_app HFv.out hfa HBv.out.size hba.size).2.wide hsz (Nat.le_refl _) : Fresh w w3 (bsa ++ bsv)); have HBX := Lib.hid (bnext HB1.out (bnext HBv.out hba)); clear hoa hfa hba))
    all_goals (go_wp2_with fail)
    all_goals go_ret2
    all_goals exact ⟨va, vv, bsa, bsv, rfl, HOA.out, HOV.out, HFR.out, HBX.out⟩
end Go.Proofs.YtfojllkkbdpfkaaGreat
