/- Own words over any program: memory that a call has made and its caller may write ('OInts'), and what a write to it leaves ('OnlyAt'). -/
import Derived.Test.YtpedpbbiamhgdaaReads
namespace Go.Proofs.Ytpedpbbiamhgdaa
open Go.RowKit
set_option linter.unusedVariables false

/-- w' is w but for the blocks bs, and with new blocks. -/
structure OnlyAt (bs : List Nat) (w w' : World) : Prop where
  os : w'.os = w.os
  tape : w'.tape = w.tape
  output : w'.output = w.output
  size : w.heap.size ≤ w'.heap.size
  block : ∀ k, k < w.heap.size → k ∉ bs → w'.heap[k]? = w.heap[k]?
theorem OnlyAt.refl (bs : List Nat) (w : World) : OnlyAt bs w w := ⟨rfl, rfl, rfl, Nat.le_refl _, fun _ _ _ => rfl⟩
theorem OnlyAt.ofBelow {w w' : World} (bs : List Nat) (h : Below w.heap.size w w') : OnlyAt bs w w' := ⟨h.os, h.tape, h.output, h.size, fun k hk _ => h.block k hk⟩
theorem OnlyAt.trans {bs bs' : List Nat} {a b c : World} (h : OnlyAt bs a b) (k : OnlyAt bs' b c) : OnlyAt (bs ++ bs') a c :=
  ⟨k.os.trans h.os, k.tape.trans h.tape, k.output.trans h.output, Nat.le_trans h.size k.size, fun i hi hn => by
    rw [List.mem_append] at hn
    exact (k.block i (Nat.lt_of_lt_of_le hi h.size) (fun e => hn (.inr e))).trans (h.block i hi (fun e => hn (.inl e)))⟩
theorem OnlyAt.same {bs : List Nat} {a b c : World} (h : OnlyAt bs a b) (k : OnlyAt bs b c) : OnlyAt bs a c :=
  ⟨k.os.trans h.os, k.tape.trans h.tape, k.output.trans h.output, Nat.le_trans h.size k.size, fun i hi hn =>
    (k.block i (Nat.lt_of_lt_of_le hi h.size) hn).trans (h.block i hi hn)⟩
theorem OnlyAt.wider {bs bs' : List Nat} {a b : World} (h : OnlyAt bs a b) (hs : ∀ x ∈ bs, x ∈ bs') : OnlyAt bs' a b :=
  ⟨h.os, h.tape, h.output, h.size, fun i hi hn => h.block i hi (fun e => hn (hs i e))⟩
theorem OnlyAt.cell {bs : List Nat} {w w' : World} (h : OnlyAt bs w w') {b o : Nat} {v : Value} (hn : b ∉ bs) (hc : w.cell? ⟨b, o, none⟩ = some v) : w'.cell? ⟨b, o, none⟩ = some v := by
  rw [World.cell?_of_block (w := w) (h.block b (World.block_lt_of_cell? w _ hc) hn)]; exact hc
theorem OnlyAt.setCell (w : World) (b o : Nat) (u : Value) : OnlyAt [b] w (w.setCell ⟨b, o, none⟩ u) :=
  ⟨rfl, rfl, rfl, by simp [World.setCell], fun k _ hn => Below.heap_setCell _ _ _ _ (fun e => hn (by simp [e]))⟩
theorem OnlyAt.below {bs : List Nat} {w0 w w' : World} (h : Below w0.heap.size w0 w) (k : OnlyAt bs w w') (hb : ∀ x ∈ bs, w0.heap.size ≤ x) : Below w0.heap.size w0 w' :=
  h.trans ⟨k.os, k.tape, k.output, k.size, fun i hi => k.block i (Nat.lt_of_lt_of_le hi h.size) (fun e => by have := hb i e; omega)⟩

/-- The slice v reads as l; its cells lie in the blocks bs (one, or none if it is empty) and may be written. -/
def OInts (w : World) (v : Value) (l : List Int) (bs : List Nat) : Prop :=
  Ints w v l ∧ ((∃ a c, v = .slice a 0 c ∧ bs = []) ∨ ∃ b off n c, v = .slice (some ⟨b, off, none⟩) n c ∧ 0 < n ∧ bs = [b] ∧ ∀ j, j < n → w.frozen? ⟨b, off + j, none⟩ = false)
theorem OInts.below {w w' : World} {v : Value} {l : List Int} {bs : List Nat} (h : OInts w v l bs) (hb : Below w.heap.size w w') : OInts w' v l bs := by
  refine ⟨h.1.below hb, ?_⟩
  rcases h.2 with h2 | ⟨b, off, n, c, rfl, hn, rfl, hf⟩
  · exact .inl h2
  · refine .inr ⟨b, off, n, c, rfl, hn, rfl, fun j hj => ?_⟩
    rcases h.1.2 with ⟨a, cap, e, _, rfl⟩ | ⟨b', off', len, cap, e, hl, h1, h2, hlt, hc⟩
    · cases e; omega
    · cases e
      rw [hb.frozen (p := ⟨b, off + j, none⟩) hlt]; exact hf j hj
theorem Ints.onlyAt {bs : List Nat} {w w' : World} {v : Value} {l : List Int} (h : Ints w v l) (k : OnlyAt bs w w') (hn : ∀ b off n c, v = .slice (some ⟨b, off, none⟩) n c → 0 < n → b ∉ bs) : Ints w' v l := by
  refine ⟨h.1, ?_⟩
  rcases h.2 with h | ⟨b, off, len, cap, rfl, hl, h1, h2, hlt, hc⟩
  · exact .inl h
  · exact .inr ⟨b, off, len, cap, rfl, hl, h1, h2, Nat.lt_of_lt_of_le hlt k.size, fun j hj => k.cell (hn _ _ _ _ rfl (by omega)) (hc j hj)⟩
theorem OInts.onlyAt {bs bs' : List Nat} {w w' : World} {v : Value} {l : List Int} (h : OInts w v l bs) (k : OnlyAt bs' w w') (hn : ∀ b ∈ bs, b ∉ bs') : OInts w' v l bs := by
  refine ⟨h.1.onlyAt k ?_, ?_⟩
  · rintro b off n c rfl hpos
    rcases h.2 with ⟨a, c', e, rfl⟩ | ⟨b', off', n', c', e, _, rfl, _⟩
    · cases e; omega
    · cases e; exact hn b (by simp)
  · rcases h.2 with h2 | ⟨b, off, n, c, rfl, hpos, rfl, hf⟩
    · exact .inl h2
    · refine .inr ⟨b, off, n, c, rfl, hpos, rfl, fun j hj => ?_⟩
      rcases h.1.2 with ⟨a, cap, e, _, rfl⟩ | ⟨b', off', len, cap, e, hl, h1, h2, hlt, hc⟩
      · cases e; omega
      · cases e
        rw [World.frozen?_of_block (w := w) (k.block b hlt (hn b (by simp)))]; exact hf j hj
theorem OInts.lt {w : World} {v : Value} {l : List Int} {bs : List Nat} (h : OInts w v l bs) : ∀ b ∈ bs, b < w.heap.size := by
  intro x hx
  rcases h.2 with ⟨a, c, rfl, rfl⟩ | ⟨b, off, n, c, rfl, hn, rfl, hf⟩
  · simp at hx
  · rcases h.1.2 with ⟨a, cap, e, _, rfl⟩ | ⟨b', off', len, cap, e, hl, h1, h2, hlt, hc⟩
    · cases e; omega
    · cases e; simp at hx; subst hx; exact hlt
theorem OInts.ofBuilt {E : TypeId} {w0 w : World} {v : Value} {l : List Int} (h : Built .i64 E w0 w v l) (hi : ∀ x ∈ l, inI x) : ∃ bs, OInts w v l bs ∧ bs.Nodup ∧ ∀ b ∈ bs, w0.heap.size ≤ b ∧ b < w.heap.size := by
  have hr := Ints.ofBuilt h hi
  rcases h.1.2 with ⟨rfl, hn⟩ | ⟨g, cap, cur, rfl, hb, hg, hlc, hcm, hsz, htk⟩
  · exact ⟨[], ⟨hr, .inl ⟨none, 0, rfl, rfl⟩⟩, by simp, fun b hb => by simp at hb⟩
  · by_cases h0 : l.length = 0
    · exact ⟨[], ⟨hr, .inl ⟨_, cap, by rw [h0], rfl⟩⟩, by simp, fun b hb => by simp at hb⟩
    · have hlt : g < w.heap.size := by
        rcases Nat.lt_or_ge g w.heap.size with h3 | h3
        · exact h3
        · rw [Array.getElem?_eq_none h3] at hg; cases hg
      exact ⟨[g], ⟨hr, .inr ⟨g, 0, _, cap, rfl, by omega, rfl, fun j hj => Built.frozen rfl h (0 + j)⟩⟩, by simp, fun b hb' => by simp at hb'; subst hb'; exact ⟨hb, hlt⟩⟩

theorem OInts.setCell {w : World} {v : Value} {l : List Int} {bs : List Nat} {B : Nat} (h : OInts w v l bs) (hn : ∀ b ∈ bs, B ≤ b) (blk o : Nat) (u : Value) (hp : blk < B) : OInts (w.setCell ⟨blk, o, none⟩ u) v l bs :=
  h.onlyAt (OnlyAt.setCell w blk o u) (fun b hb e => by have := hn b hb; simp at e; omega)
/-- The blocks bs are new between w and w', each named once. -/
def Fresh (w w' : World) (bs : List Nat) : Prop := bs.Nodup ∧ ∀ b ∈ bs, w.heap.size ≤ b ∧ b < w'.heap.size
theorem Fresh.lo {w w' : World} {bs : List Nat} (h : Fresh w w' bs) : ∀ b ∈ bs, w.heap.size ≤ b := fun b hb => (h.2 b hb).1
theorem Fresh.wide {w0 w w' w1 : World} {bs : List Nat} (h : Fresh w w' bs) (h0 : w0.heap.size ≤ w.heap.size) (h1 : w'.heap.size ≤ w1.heap.size) : Fresh w0 w1 bs :=
  ⟨h.1, fun b hb => ⟨Nat.le_trans h0 (h.2 b hb).1, Nat.lt_of_lt_of_le (h.2 b hb).2 h1⟩⟩
def GaveInts (w : World) (l : List Int) (e : Ending) (w' : World) : Prop := ∃ v bs, e = .returned v ∧ OInts w' v l bs ∧ Fresh w w' bs ∧ Below w.heap.size w w'
/-- A call that answers a value in new memory: R speaks of it and of its blocks. -/
def GaveO (R : World → Value → List Nat → Prop) (w : World) (e : Ending) (w' : World) : Prop := ∃ v bs, e = .returned v ∧ R w' v bs ∧ Fresh w w' bs ∧ Below w.heap.size w w'
theorem Built.grow {k : IntKind} {E : TypeId} {w0 w w' : World} {v : Value} {l : List Int} (h : Built k E w0 w v l) (hb : Below w.heap.size w w') : Built k E w0 w' v l := by
  refine ⟨⟨h.1.1, ?_⟩, bnext h.2 hb⟩
  rcases h.1.2 with h1 | ⟨g, cap, cur, rfl, h1, hg, h2⟩
  · exact .inl h1
  · have hlt : g < w.heap.size := by
      rcases Nat.lt_or_ge g w.heap.size with h3 | h3
      · exact h3
      · rw [Array.getElem?_eq_none h3] at hg; cases hg
    exact .inr ⟨g, cap, cur, rfl, h1, by rw [hb.block g hlt]; exact hg, h2⟩
theorem Built.owns {E : TypeId} {w0 w : World} {v : Value} {l : List Int} (h : Built .i64 E w0 w v l) (hi : ∀ x ∈ l, inI x) : GaveInts w0 l (.returned v) w := by
  obtain ⟨bs, ho, hn, hb⟩ := OInts.ofBuilt h hi
  exact ⟨v, bs, rfl, ho, ⟨hn, hb⟩, h.2⟩
def iota (k : Int) (n : Nat) : List Int := (List.range n).map (fun (j : Nat) => k + (j : Int))
theorem iota_length (k : Int) (n : Nat) : (iota k n).length = n := by simp [iota]
theorem iota_getD (k : Int) (n j : Nat) (h : j < n) : (iota k n).getD j 0 = k + j := by
  simp [iota, List.getD, List.getElem?_map, List.getElem?_range h]
theorem iota_inI (k : Int) (n : Nat) (h0 : 0 ≤ k) (h1 : k + n ≤ 4611686018427387904) : ∀ x ∈ iota k n, inI x := by
  intro x hx
  unfold iota at hx
  obtain ⟨j, hj, rfl⟩ := List.mem_map.1 hx
  have := List.mem_range.1 hj
  unfold inI; omega
end Go.Proofs.Ytpedpbbiamhgdaa
