/- Chapter 9's impl, DedupeAtoms: rows of atoms, and a map from packed atoms to rows of them. -/
import Derived.Test.YtdbeogmabcbdoaaI9d
import Derived.Test.YtdbeogmabcbdoaaM9k
import Derived.Test.YtdbeogmabcbdoaaApp1D
namespace Go.Proofs.Ytdbeogmabcbdoaa
open Go Go.Sort Go.RowKit
open Go.ChangeMaps (setBlock heap_setBlock_same heap_setBlock_other)
set_option linter.unusedVariables false

section
variable {P : Program}
theorem wpList_app1E {w w0 : World} {ops : Array Oper} {rest : List Oper} {o : Oper} {a : Act} {Q : Exit → Act → World → Prop} (hgd : o.guard = none) (s x : Operand) (t : TypeId)
    (ho : o.op = .call { callee := .builtin .append, args := #[s, x], argTypes := #[t, t] })
    (E : TypeId) (z : Value) (size bytes : Nat) (ht : P.underlying t = some (.slice E)) (hinfo : (P.info? E).map (fun i => (i.zero, i.size, i.bytes)) = some (some z, size, bytes)) (h8 : bytes ≤ 128) (hsz : 0 < size) (hzs : z.cells.size = size)
    (v : Value) (n : Nat) (cs : List Value) (hs : a.eval s = v) (hown : BuiltC E size w0 w v n cs) (g : Nat) (new : List Value) (hnew : new.length = size) (h1 : ∀ u ∈ new, u.oneCell' = true)
    (hx : a.eval x = .slice (some ⟨g, 0, none⟩) 1 1) (hblk : w.heap[g]? = some (.cells new.toArray E (0, 0))) (hn : n + 1 ≤ 1099511627776)
    (h : ∀ g' cap' w', BuiltC E size w0 w' (.slice (some ⟨g', 0, none⟩) (n + 1) cap') (n + 1) (cs ++ new) → OnlyAt (blk v) w w' → (∀ b ∈ blk (.slice (some ⟨g', 0, none⟩) (n + 1) cap'), b ∈ blk v ∨ b = w.heap.size) → wpList P ops Q rest (a.put o.dst (.slice (some ⟨g', 0, none⟩) (n + 1) cap')) w') : wpList P ops Q (o :: rest) a w := by
  refine wpList_plain hgd fun K hK => ?_
  have := step_app1D (P := P) (K := K) (Q := Q) (ops := ops) (F := True) hgd s x t ho E z size bytes ht hinfo h8 hsz hzs v n cs hs hown g new hnew h1 hx hblk hn (fun g' cap' w' hb ho hbl => hK _ _ (h g' cap' w' hb ho hbl))
  rwa [if_pos (by simp [Region.wanted, hgd])] at this
end
theorem virt9 (w : World) (B : Nat) (h : B ≤ w.heap.size) : ∃ W : World, W.heap.size = B ∧ Below W.heap.size W w := by
  refine ⟨{ w with heap := w.heap.extract 0 B }, by simp; omega, rfl, rfl, rfl, by simp; omega, fun k hk => ?_⟩
  simp at hk
  simp [Array.getElem?_extract]
  omega
theorem OnlyAt.sub9 {bs bs' : List Nat} {w w' : World} (h : OnlyAt bs w w') (hs : ∀ b ∈ bs, b ∈ bs') : OnlyAt bs' w w' := ⟨h.os, h.tape, h.output, h.size, fun k hk hn => h.block k hk (fun e => hn (hs k e))⟩
theorem OnlyAt.above9 {M : Nat} {bs : List Nat} {W w w' : World} (h : OnlyAt [M] W w) (k : OnlyAt bs w w') (hn : ∀ b ∈ bs, b = M ∨ W.heap.size ≤ b) : OnlyAt [M] W w' :=
  ⟨k.os.trans h.os, k.tape.trans h.tape, k.output.trans h.output, Nat.le_trans h.size k.size, fun i hi hb =>
    (k.block i (Nat.lt_of_lt_of_le hi h.size) (fun e => by
      rcases hn i e with h1 | h1
      · exact hb (by simp [h1])
      · omega)).trans (h.block i hi hb)⟩
theorem zbk9 {w w' : World} {B : Nat} {o : Obj} (hb : Below w.heap.size w w') (hz : w.heap[B]? = some o) : w'.heap[B]? = some o := (hb.block B (Array.getElem?_eq_some_iff.1 hz).1).trans hz
theorem zb9_lt {w : World} {b o : Nat} {v : Value} (h : w.cell? ⟨b, o, none⟩ = some v) : b < w.heap.size := World.block_lt_of_cell? _ _ h
theorem setBlock_only9 (W : World) (b : Nat) (o : Obj) : OnlyAt [b] W (setBlock W b o) :=
  ⟨rfl, rfl, rfl, by simp [setBlock], fun k _ hn => by simp [setBlock, show ¬ b = k from fun e => hn (by simp [e])]⟩
theorem setBlock_heap9 {W : World} {b : Nat} {o o' : Obj} (h : W.heap[b]? = some o) : (setBlock W b o').heap[b]? = some o' := by
  unfold setBlock; simp [(Array.getElem?_eq_some_iff.1 h).1]

/-- A row of atoms, of its own from LB on; the atoms' arguments lay there in w0. -/
def RowA (LB : Nat) (w0 w : World) (v : Value) (l : List AtomD) : Prop := LB ≤ w.heap.size ∧ ∃ cs, w.ownsRow LB 53 2 v l.length cs ∧ Cs2 w0 cs l
theorem RowA.nil {LB : Nat} {w0 w : World} (h : LB ≤ w.heap.size) : RowA LB w0 w (.slice none 0 0) [] := ⟨h, [], World.ownsRow_nil _ _ _ _, fun j d hd => by simp at hd⟩
theorem RowA.built {LB : Nat} {w0 w : World} {v : Value} {l : List AtomD} (h : RowA LB w0 w v l) : ∃ W cs, W.heap.size = LB ∧ BuiltC 53 2 W w v l.length cs ∧ Cs2 w0 cs l := by
  obtain ⟨hL, cs, h1, h2⟩ := h
  obtain ⟨W, hW, hb⟩ := virt9 w LB hL
  exact ⟨W, cs, hW, ⟨by rw [hW]; exact h1, hb⟩, h2⟩
theorem RowA.ofBuilt {LB : Nat} {w0 W w : World} {v : Value} {l : List AtomD} {cs : List Value} (hW : W.heap.size = LB) (h : BuiltC 53 2 W w v l.length cs) (h2 : Cs2 w0 cs l) : RowA LB w0 w v l := ⟨by rw [← hW]; exact h.2.size, cs, by rw [← hW]; exact h.1, h2⟩
theorem RowA.lo {LB : Nat} {w0 w : World} {v : Value} {l : List AtomD} (h : RowA LB w0 w v l) : ∀ b ∈ blk v, LB ≤ b ∧ b < w.heap.size := by
  obtain ⟨W, cs, hW, h1, _⟩ := h.built
  intro b hb
  rcases h1.form with ⟨rfl, _⟩ | ⟨g, cap, rfl, _⟩
  · simp [blk] at hb
  · simp [blk] at hb; subst hb; rw [← hW]; exact h1.lt
theorem RowA.only {LB : Nat} {w0 w w' : World} {v : Value} {l : List AtomD} {bs : List Nat} (h : RowA LB w0 w v l) (ko : OnlyAt bs w w') (hn : ∀ b ∈ blk v, b ∉ bs) : RowA LB w0 w' v l := by
  obtain ⟨hL, cs, ⟨e1, e2⟩, h2⟩ := h
  refine ⟨Nat.le_trans hL ko.size, cs, ⟨e1, ?_⟩, h2⟩
  rcases e2 with h4 | ⟨g, cap, cur, rfl, h4, hg, h5⟩
  · exact .inl h4
  · exact .inr ⟨g, cap, cur, rfl, h4, by rw [ko.block g (Array.getElem?_eq_some_iff.1 hg).1 (hn g (by simp [blk]))]; exact hg, h5⟩
theorem RowA.below {LB : Nat} {w0 w w' : World} {v : Value} {l : List AtomD} (h : RowA LB w0 w v l) (hb : Below w.heap.size w w') : RowA LB w0 w' v l := h.only (OnlyAt.ofBelow [] hb) (fun _ _ hm => by simp at hm)
theorem RowA.rd {LB : Nat} {w0 w : World} {v : Value} {l : List AtomD} (h : RowA LB w0 w v l) (hb : Below w0.heap.size w0 w) : RdAtomS w v l := by
  obtain ⟨W, cs, hW, h1, h2⟩ := h.built
  exact rd_row h1 rfl (h2.below hb)
theorem RowA.form {LB : Nat} {w0 w : World} {v : Value} {l : List AtomD} (h : RowA LB w0 w v l) : ∃ a c, v = .slice a l.length c := by
  obtain ⟨W, cs, hW, h1, _⟩ := h.built
  rcases h1.form with ⟨rfl, h0⟩ | ⟨g, cap, rfl, _⟩
  · exact ⟨none, 0, by rw [h0]⟩
  · exact ⟨_, _, rfl⟩
theorem Cs2.snoc {w : World} {L : List Value} {l : List AtomD} (h : Cs2 w L l) (hL : L.length = l.length * 2) {e : AtomD} {a : Option Addr} {m c : Nat} (hi : inI e.1) (he : Ints w (.slice a m c) e.2) : Cs2 w (L ++ [.int .i64 e.1, .slice a m c]) (l ++ [e]) := by
  intro j d hd
  by_cases hj : j < l.length
  · rw [List.getElem?_append_left hj] at hd
    obtain ⟨a', m', c', h1, h2, h3⟩ := h j d hd
    exact ⟨a', m', c', by rw [List.getElem?_append_left (by omega)]; exact h1, by rw [List.getElem?_append_left (by omega)]; exact h2, h3⟩
  · rw [List.getElem?_append_right (by omega)] at hd
    have h0 : j - l.length = 0 := by
      have := (List.getElem?_eq_some_iff.1 hd).1
      simp at this; omega
    rw [h0] at hd
    simp at hd
    subst hd
    refine ⟨a, m, c, ?_, ?_, hi, he⟩
    · rw [List.getElem?_append_right (by omega), show j * 2 - L.length = 0 by omega]; rfl
    · rw [List.getElem?_append_right (by omega), show j * 2 + 1 - L.length = 1 by omega]; rfl

def pk9 (a : AtomD) : Value := packed a.1 a.2.length a.2
theorem pk9_key {a : AtomD} (hr : inI a.1) (hi : ∀ x ∈ a.2, inI x) (hz : a.2.length ≤ 1048576) : ∃ kl, keyOf Try.prog 72 (pk9 a) = some kl :=
  packKey9 hr (by unfold inI; omega) (inI_getD hi 0) (inI_getD hi 1) (inI_getD hi 2)
/-- The map's entries: for each key the kept atoms that have it, in rows of their own; kv: the row of all kept. -/
def Bks (LB : Nat) (w0 w : World) (L : List AtomD) (es : Array MapEntry) (kv : Value) : Prop :=
  ∃ ats : List (Value × Value × List AtomD), prs9 es = ats.map (fun p => (p.1, p.2.1)) ∧ (∀ p ∈ ats, RowA LB w0 w p.2.1 p.2.2) ∧ (∀ p ∈ ats, ∀ b ∈ blk p.2.1, b ∉ blk kv) ∧ (∀ (i j : Nat) (p q : Value × Value × List AtomD), ats[i]? = some p → ats[j]? = some q → i ≠ j → p.1 ≠ q.1 ∧ ∀ b ∈ blk p.2.1, b ∉ blk q.2.1) ∧ (∀ p ∈ ats, p.2.2.length ≤ L.length ∧ ∀ a ∈ p.2.2, a ∈ L) ∧ ∀ a ∈ L, ∃ p ∈ ats, p.1 = pk9 a ∧ a ∈ p.2.2
theorem Bks.nil (LB : Nat) (w0 w : World) (kv : Value) : Bks LB w0 w [] #[] kv := ⟨[], rfl, fun p hp => by simp at hp, fun p hp => by simp at hp, fun i j p q h => by simp at h, fun p hp => by simp at hp, fun a ha => by simp at ha⟩
theorem Bks.below {LB : Nat} {w0 w w' : World} {L : List AtomD} {es : Array MapEntry} {kv : Value} (h : Bks LB w0 w L es kv) (hb : Below w.heap.size w w') : Bks LB w0 w' L es kv := by
  obtain ⟨ats, h1, h2, h3⟩ := h
  exact ⟨ats, h1, fun p hp => (h2 p hp).below hb, h3⟩
/-- The row of all kept grows: the others stay. -/
theorem Bks.kept {LB : Nat} {w0 w w' : World} {L : List AtomD} {es : Array MapEntry} {kv kv' : Value} (h : Bks LB w0 w L es kv) (ko : OnlyAt (blk kv) w w') (hv : ∀ b ∈ blk kv', b ∈ blk kv ∨ w.heap.size ≤ b) : Bks LB w0 w' L es kv' := by
  obtain ⟨ats, h1, h2, h3, h4, h5⟩ := h
  refine ⟨ats, h1, fun p hp => (h2 p hp).only ko (h3 p hp), fun p hp b hb hm => ?_, h4, h5⟩
  rcases hv b hm with h | h
  · exact h3 p hp b hb h
  · have := ((h2 p hp).lo b hb).2; omega
theorem Bks.find {LB : Nat} {w0 w : World} {L : List AtomD} {es : Array MapEntry} {kv v0 : Value} {e : AtomD} (h : Bks LB w0 w L es kv) (hL : LB ≤ w.heap.size) (hkv : ∀ b ∈ blk kv, b < w.heap.size)
    (hd : (∃ j : Nat, (prs9 es)[j]? = some (pk9 e, v0)) ∨ ((∀ x ∈ prs9 es, x.1 ≠ pk9 e) ∧ v0 = .slice none 0 0)) :
    ∃ l0, RowA LB w0 w v0 l0 ∧ l0.length ≤ L.length ∧ (e ∈ l0 ↔ e ∈ L) ∧ (∀ b ∈ blk v0, b ∉ blk kv) ∧
      ∀ (w' : World) (val : Value) (es2 : Array MapEntry) (M : Nat), OnlyAt (M :: blk v0) w w' → M < LB → RowA LB w0 w' val (l0 ++ [e]) → (∀ b ∈ blk val, b ∈ blk v0 ∨ w.heap.size ≤ b) →
        ((∃ j : Nat, (prs9 es)[j]? = some (pk9 e, v0) ∧ prs9 es2 = (prs9 es).set j (pk9 e, val)) ∨ ((∀ x ∈ prs9 es, x.1 ≠ pk9 e) ∧ v0 = .slice none 0 0 ∧ prs9 es2 = prs9 es ++ [(pk9 e, val)])) → Bks LB w0 w' (L ++ [e]) es2 kv := by
  obtain ⟨ats, h1, h2, h3, h4, h5, h6⟩ := h
  rcases hd with ⟨j, hj⟩ | ⟨hno, rfl⟩
  · have hjj := hj
    rw [h1, List.getElem?_map, Option.map_eq_some_iff] at hjj
    obtain ⟨p, hp, hpe⟩ := hjj
    obtain ⟨e1, e2⟩ := Prod.mk.inj hpe
    subst e2
    have hpm := List.mem_of_getElem? hp
    have huniq : ∀ j' p', ats[j']? = some p' → p'.1 = pk9 e → j' = j := fun j' p' hp' he => by
      by_cases hjj : j' = j
      · exact hjj
      · exact absurd (he.trans e1.symm) (h4 j' j p' p hp' hp hjj).1
    refine ⟨p.2.2, h2 p hpm, (h5 p hpm).1, ⟨fun he => (h5 p hpm).2 e he, fun he => ?_⟩, h3 p hpm, fun w' val es2 M ko hM hrow hbv hput => ?_⟩
    · obtain ⟨p', hp', hk, hm⟩ := h6 e he
      obtain ⟨j', hj'⟩ := List.mem_iff_getElem?.1 hp'
      have := huniq j' p' hj' hk
      subst this
      rw [hp] at hj'; cases hj'; exact hm
    · rcases hput with ⟨j', hj', hset⟩ | ⟨hno, _⟩
      · rw [h1, List.getElem?_map, Option.map_eq_some_iff] at hj'
        obtain ⟨p', hp', hpe'⟩ := hj'
        have := huniq j' p' hp' (Prod.mk.inj hpe').1
        subst this
        have hjl := (List.getElem?_eq_some_iff.1 hp).1
        have hget : ∀ i q, (ats.set j' (pk9 e, val, p.2.2 ++ [e]))[i]? = some q → (i = j' ∧ q = (pk9 e, val, p.2.2 ++ [e])) ∨ (i ≠ j' ∧ ats[i]? = some q) := fun i q hq => by
          rw [List.getElem?_set] at hq
          split at hq
          · rename_i hi
            first | (cases hq; exact .inl ⟨hi.symm, rfl⟩) | (rw [if_pos (by omega)] at hq; cases hq; exact .inl ⟨hi.symm, rfl⟩)
          · rename_i hi
            exact .inr ⟨fun h => hi h.symm, hq⟩
        have hoth : ∀ i q, ats[i]? = some q → i ≠ j' → ∀ b ∈ blk q.2.1, b ∉ M :: blk p.2.1 := fun i q hq hi b hb hm => by
          rcases List.mem_cons.1 hm with h | h
          · have := ((h2 q (List.mem_of_getElem? hq)).lo b hb).1; omega
          · exact (h4 i j' q p hq hp hi).2 b hb h
        refine ⟨ats.set j' (pk9 e, val, p.2.2 ++ [e]), by rw [hset, h1, List.map_set], fun q hq => ?_, fun q hq b hb hm => ?_, fun i k q q' hq hq' hne => ?_, fun q hq => ⟨?_, fun a ha => ?_⟩, fun a ha => ?_⟩
        · obtain ⟨i, hi⟩ := List.mem_iff_getElem?.1 hq
          rcases hget i q hi with ⟨_, rfl⟩ | ⟨hne, hq0⟩
          · exact hrow
          · exact (h2 q (List.mem_of_getElem? hq0)).only ko (hoth i q hq0 hne)
        · obtain ⟨i, hi⟩ := List.mem_iff_getElem?.1 hq
          rcases hget i q hi with ⟨_, rfl⟩ | ⟨hne, hq0⟩
          · rcases hbv b hb with h | h
            · exact h3 p hpm b h hm
            · have := hkv b hm; omega
          · exact h3 q (List.mem_of_getElem? hq0) b hb hm
        · rcases hget i q hq with ⟨rfl, rfl⟩ | ⟨hne1, hq1⟩
          · rcases hget k q' hq' with ⟨rfl, rfl⟩ | ⟨hne2, hq2⟩
            · exact absurd rfl hne
            · have h7 := h4 i k p q' hp hq2 hne
              refine ⟨by rw [← e1]; exact h7.1, fun b hb hm => ?_⟩
              rcases hbv b hb with h | h
              · exact h7.2 b h hm
              · have := ((h2 q' (List.mem_of_getElem? hq2)).lo b hm).2; omega
          · rcases hget k q' hq' with ⟨rfl, rfl⟩ | ⟨hne2, hq2⟩
            · have h7 := h4 i k q p hq1 hp hne
              refine ⟨by rw [← e1]; exact h7.1, fun b hb hm => ?_⟩
              rcases hbv b hm with h | h
              · exact h7.2 b hb h
              · have := ((h2 q (List.mem_of_getElem? hq1)).lo b hb).2; omega
            · exact h4 i k q q' hq1 hq2 hne
        · obtain ⟨i, hi⟩ := List.mem_iff_getElem?.1 hq
          rcases hget i q hi with ⟨_, rfl⟩ | ⟨hne, hq0⟩
          · have := (h5 p hpm).1; simp; omega
          · have := (h5 q (List.mem_of_getElem? hq0)).1; simp; omega
        · obtain ⟨i, hi⟩ := List.mem_iff_getElem?.1 hq
          rcases hget i q hi with ⟨_, rfl⟩ | ⟨hne, hq0⟩
          · rcases List.mem_append.1 ha with h | h
            · exact List.mem_append_left _ ((h5 p hpm).2 a h)
            · exact List.mem_append_right _ h
          · exact List.mem_append_left _ ((h5 q (List.mem_of_getElem? hq0)).2 a ha)
        · have hnew : (pk9 e, val, p.2.2 ++ [e]) ∈ ats.set j' (pk9 e, val, p.2.2 ++ [e]) := List.mem_of_getElem? (by rw [List.getElem?_set_self hjl])
          rcases List.mem_append.1 ha with h | h
          · obtain ⟨q, hq, hk, hm⟩ := h6 a h
            obtain ⟨i, hi⟩ := List.mem_iff_getElem?.1 hq
            by_cases hij : i = j'
            · subst hij
              rw [hp] at hi; cases hi
              exact ⟨_, hnew, by rw [← hk]; exact e1.symm, List.mem_append_left _ hm⟩
            · exact ⟨q, List.mem_of_getElem? (i := i) (by rw [List.getElem?_set_ne (fun h => hij h.symm)]; exact hi), hk, hm⟩
          · rw [List.mem_singleton.1 h]
            exact ⟨_, hnew, rfl, by simp⟩
      · exact absurd rfl (hno _ (List.mem_of_getElem? hj))
  · have hnok : ∀ p ∈ ats, p.1 ≠ pk9 e := fun p hp => hno (p.1, p.2.1) (by rw [h1]; exact List.mem_map.2 ⟨p, hp, rfl⟩)
    refine ⟨[], RowA.nil hL, Nat.zero_le _, ⟨fun he => by simp at he, fun he => ?_⟩, fun b hb => by simp [blk] at hb, fun w' val es2 M ko hM hrow hbv hput => ?_⟩
    · obtain ⟨p', hp', hk, hm⟩ := h6 e he
      exact absurd hk (hnok p' hp')
    · rcases hput with ⟨j', hj', hset⟩ | ⟨_, _, hset⟩
      · exact absurd rfl (hno _ (List.mem_of_getElem? hj'))
      · have hbv2 : ∀ b ∈ blk val, w.heap.size ≤ b := fun b hb => by
          rcases hbv b hb with h | h
          · simp [blk] at h
          · exact h
        have hget : ∀ i q, (ats ++ [(pk9 e, val, [e])])[i]? = some q → (i = ats.length ∧ q = (pk9 e, val, [e])) ∨ (i ≠ ats.length ∧ ats[i]? = some q) := fun i q hq => by
          by_cases hi : i < ats.length
          · rw [List.getElem?_append_left hi] at hq
            exact .inr ⟨by omega, hq⟩
          · rw [List.getElem?_append_right (by omega)] at hq
            have h0 : i - ats.length = 0 := by
              have := (List.getElem?_eq_some_iff.1 hq).1
              simp at this; omega
            rw [h0] at hq
            simp at hq
            exact .inl ⟨by omega, hq.symm⟩
        have hoth : ∀ q ∈ ats, ∀ b ∈ blk q.2.1, b ∉ M :: blk (.slice none 0 0) := fun q hq b hb hm => by
          simp [blk] at hm
          have := ((h2 q hq).lo b hb).1; omega
        refine ⟨ats ++ [(pk9 e, val, [e])], by rw [hset, h1, List.map_append]; rfl, fun q hq => ?_, fun q hq b hb hm => ?_, fun i k q q' hq hq' hne => ?_, fun q hq => ⟨?_, fun a ha => ?_⟩, fun a ha => ?_⟩
        · rcases List.mem_append.1 hq with h | h
          · exact (h2 q h).only ko (hoth q h)
          · rw [List.mem_singleton.1 h]; exact hrow
        · rcases List.mem_append.1 hq with h | h
          · exact h3 q h b hb hm
          · rw [List.mem_singleton.1 h] at hb
            have := hbv2 b hb; have := hkv b hm; omega
        · rcases hget i q hq with ⟨rfl, rfl⟩ | ⟨hne1, hq1⟩
          · rcases hget k q' hq' with ⟨rfl, rfl⟩ | ⟨hne2, hq2⟩
            · exact absurd rfl hne
            · have hm2 := List.mem_of_getElem? hq2
              refine ⟨fun h => hnok q' hm2 h.symm, fun b hb hm => ?_⟩
              have := hbv2 b hb; have := ((h2 q' hm2).lo b hm).2; omega
          · rcases hget k q' hq' with ⟨rfl, rfl⟩ | ⟨hne2, hq2⟩
            · have hm1 := List.mem_of_getElem? hq1
              refine ⟨hnok q hm1, fun b hb hm => ?_⟩
              have := hbv2 b hm; have := ((h2 q hm1).lo b hb).2; omega
            · exact h4 i k q q' hq1 hq2 hne
        · rcases List.mem_append.1 hq with h | h
          · have := (h5 q h).1; simp; omega
          · rw [List.mem_singleton.1 h]; simp
        · rcases List.mem_append.1 hq with h | h
          · exact List.mem_append_left _ ((h5 q h).2 a ha)
          · rw [List.mem_singleton.1 h] at ha
            exact List.mem_append_right _ ha
        · rcases List.mem_append.1 ha with h | h
          · obtain ⟨q, hq, hk, hm⟩ := h6 a h
            exact ⟨q, List.mem_append_left _ hq, hk, hm⟩
          · rw [List.mem_singleton.1 h]
            exact ⟨(pk9 e, val, [e]), by simp, rfl, by simp⟩
end Go.Proofs.Ytdbeogmabcbdoaa
