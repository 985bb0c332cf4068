/- Own words over any program: what a drawing call builds while a cursor moves ('DSt', 'Own', 'DI', 'DFs'). -/
import Derived.Test.YtcfohmcfbjidnaaDraw2
import Derived.Test.YtcfohmcfbjidnaaOutInv
namespace Go.Proofs.Ytcfohmcfbjidnaa
open Go Go.RowKit
set_option linter.unusedVariables false

theorem info_intD : (Try.prog.info? 3).map (fun i => (i.zero, i.size, i.bytes)) = some (some (.int .i64 0), 1, 8) := by kernel_rfl
/-- A world of just the blocks below a bound. -/
theorem virt (w : World) (B : Nat) (h : B ≤ w.heap.size) : ∃ W : World, W.heap.size = B ∧ Below W.heap.size W w := by
  refine ⟨{ w with heap := w.heap.extract 0 B }, by simp; omega, rfl, rfl, rfl, by simp; omega, fun k hk => ?_⟩
  simp at hk
  simp [Array.getElem?_extract]
  omega
theorem OnlyAt.skip {bs bs' : List Nat} {w0 w w' : World} (h : OnlyAt bs w0 w) (k : OnlyAt bs' w w') (hb : ∀ b ∈ bs', b ∈ bs ∨ w0.heap.size ≤ b) : OnlyAt bs w0 w' :=
  ⟨k.os.trans h.os, k.tape.trans h.tape, k.output.trans h.output, Nat.le_trans h.size k.size, fun j hj hn => by
    rw [k.block j (Nat.lt_of_lt_of_le hj h.size) (fun hm => by rcases hb j hm with h1 | h1 <;> first | exact hn h1 | omega)]; exact h.block j hj hn⟩
theorem OnlyAt.grownBy {cb : Nat} {w w' : World} (h : OnlyAt [cb] w w') : w.grownBy w' (some cb) :=
  ⟨h.os, h.tape, h.output, h.size, fun k hk hr => h.block k hk (fun hm => by simp at hm; subst hm; exact hr rfl)⟩
theorem grownBy_only {cb : Nat} {w w' : World} (h : w.grownBy w' (some cb)) : OnlyAt [cb] w w' :=
  ⟨h.os, h.tape, h.output, h.size, fun k hk hn => h.block k hk (fun e => by cases e; exact hn (by simp))⟩
theorem Cur.onlyAt {w w' : World} {S : Value} {len cb : Nat} {bs : List Nat} (h : Cur w S len cb) (k : OnlyAt bs w w') (hn : cb ∉ bs) : Cur w' S len cb := by
  obtain ⟨i, hh, hi, hc⟩ := h
  exact ⟨i, hh, hi, by rw [k.block cb (Array.getElem?_eq_some_iff.1 hc).1 hn]; exact hc⟩

/-- Since the world w0 the cursor alone has changed of what was there. -/
def DSt (w0 w : World) (S : Value) (len cb : Nat) : Prop := St w0 S len cb ∧ OnlyAt [cb] w0 w ∧ Cur w S len cb
theorem DSt.start {w : World} {S : Value} {len cb : Nat} (h : St w S len cb) : DSt w w S len cb := ⟨h, OnlyAt.refl _ _, h.2⟩
theorem DSt.st {w0 w : World} {S : Value} {len cb : Nat} (h : DSt w0 w S len cb) : St w S len cb := h.1.next h.2.2 h.2.1.grownBy
theorem DSt.lt {w0 w : World} {S : Value} {len cb : Nat} (h : DSt w0 w S len cb) : cb < w0.heap.size := h.1.cb_lt
theorem DSt.draw {w0 w w' : World} {S : Value} {len cb : Nat} (h : DSt w0 w S len cb) (hc : Cur w' S len cb) (hg : w.grownBy w' (some cb)) : DSt w0 w' S len cb :=
  ⟨h.1, h.2.1.same (grownBy_only hg), hc⟩
theorem DSt.only {w0 w w' : World} {S : Value} {len cb : Nat} {bs : List Nat} (h : DSt w0 w S len cb) (k : OnlyAt bs w w') (hb : ∀ b ∈ bs, w0.heap.size ≤ b) : DSt w0 w' S len cb :=
  ⟨h.1, h.2.1.skip k (fun b hm => .inr (hb b hm)), h.2.2.onlyAt k (fun hm => by have := hb _ hm; have := h.lt; omega)⟩
theorem DSt.below {w0 w w' : World} {S : Value} {len cb : Nat} (h : DSt w0 w S len cb) (hb : Below w.heap.size w w') : DSt w0 w' S len cb :=
  h.only (OnlyAt.ofBelow [] hb) (fun b hm => by simp at hm)
theorem DSt.trans {w0 w1 w2 : World} {S : Value} {len cb : Nat} (h : DSt w0 w1 S len cb) (k : DSt w1 w2 S len cb) : DSt w0 w2 S len cb :=
  ⟨h.1, h.2.1.same k.2.1, k.2.2⟩
theorem DSt.size {w0 w : World} {S : Value} {len cb : Nat} (h : DSt w0 w S len cb) : w0.heap.size ≤ w.heap.size := h.2.1.size
theorem DSt.cell {w0 w : World} {S : Value} {len cb b o : Nat} {v : Value} (h : DSt w0 w S len cb) (hn : b ≠ cb) (hc : w0.cell? ⟨b, o, none⟩ = some v) : w.cell? ⟨b, o, none⟩ = some v := h.2.1.cell (by simpa using hn) hc
theorem DSt.frozen {w0 w : World} {S : Value} {len cb b o : Nat} (h : DSt w0 w S len cb) (hn : b ≠ cb) (hlt : b < w0.heap.size) (hc : w0.frozen? ⟨b, o, none⟩ = false) : w.frozen? ⟨b, o, none⟩ = false := h.2.1.frozen hlt (by simpa using hn) hc

/-- Numbers in a row that lies from base on. -/
def OwI (base : Nat) (w : World) (v : Value) (l : List Int) : Prop := w.ownsRow base 3 1 v l.length (l.map (Value.int .i64)) ∧ base ≤ w.heap.size ∧ ∀ x ∈ l, inI x
theorem OwI.built {base : Nat} {w : World} {v : Value} {l : List Int} (h : OwI base w v l) : ∃ W, W.heap.size = base ∧ Built .i64 3 W w v l := by
  obtain ⟨W, h1, h2⟩ := virt w base h.2.1
  exact ⟨W, h1, by rw [h1]; exact h.1, h2⟩
theorem OwI.of {E0 : Nat} {W w : World} {v : Value} {l : List Int} (h : Built .i64 3 W w v l) (hE : E0 ≤ W.heap.size) (hi : ∀ x ∈ l, inI x) : OwI E0 w v l := by
  refine ⟨⟨h.1.1, ?_⟩, Nat.le_trans hE h.2.size, hi⟩
  rcases h.1.2 with h4 | ⟨g, cap, cur, e, h4, h5⟩
  · exact .inl h4
  · exact .inr ⟨g, cap, cur, e, Nat.le_trans hE h4, h5⟩
theorem OwI.mono {B B' : Nat} {w : World} {v : Value} {l : List Int} (h : OwI B w v l) (hB : B' ≤ B) : OwI B' w v l := by
  obtain ⟨W, h1, h2⟩ := h.built
  exact OwI.of h2 (by omega) h.2.2
theorem OwI.only {base : Nat} {w w' : World} {v : Value} {l : List Int} {bs : List Nat} (h : OwI base w v l) (k : OnlyAt bs w w') (hn : ∀ b ∈ blk v, b ∉ bs) : OwI base w' v l := by
  refine ⟨⟨h.1.1, ?_⟩, Nat.le_trans h.2.1 k.size, h.2.2⟩
  rcases h.1.2 with h4 | ⟨g, cap, cur, rfl, h4, hg, h5⟩
  · exact .inl h4
  · exact .inr ⟨g, cap, cur, rfl, h4, by rw [k.block g (Array.getElem?_eq_some_iff.1 hg).1 (hn g (by simp [blk]))]; exact hg, h5⟩
theorem OwI.lo {base : Nat} {w : World} {v : Value} {l : List Int} (h : OwI base w v l) : ∀ b ∈ blk v, base ≤ b ∧ b < w.heap.size := by
  intro b hb
  rcases h.1.2 with ⟨rfl, _⟩ | ⟨g, cap, cur, rfl, h4, hg, _⟩
  · simp [blk] at hb
  · simp [blk] at hb; subst hb; exact ⟨h4, (Array.getElem?_eq_some_iff.1 hg).1⟩
theorem OwI.below {base : Nat} {w w' : World} {v : Value} {l : List Int} (h : OwI base w v l) (hb : Below w.heap.size w w') : OwI base w' v l := h.only (OnlyAt.ofBelow [] hb) (fun b _ hm => by simp at hm)
theorem OwI.draw {base : Nat} {w w' : World} {v : Value} {l : List Int} {S : Value} {len cb : Nat} (h : OwI base w v l) (hlt : cb < base) (hd : DSt w w' S len cb) : OwI base w' v l :=
  h.only hd.2.1 (fun b hb hm => by simp at hm; have := h.lo b hb; omega)
theorem OwI.owns {base : Nat} {w : World} {v : Value} {l : List Int} (h : OwI base w v l) : ∃ bs, OInts w v l bs ∧ bs.Nodup ∧ ∀ b ∈ bs, base ≤ b ∧ b < w.heap.size := by
  obtain ⟨W, h1, h2⟩ := h.built
  rw [← h1]; exact OInts.ofBuilt h2 h.2.2
theorem OwI.ints {base : Nat} {w : World} {v : Value} {l : List Int} (h : OwI base w v l) : Ints w v l := by
  obtain ⟨bs, h1, _⟩ := h.owns; exact h1.1
theorem OwI.nil (base : Nat) (w : World) (h : base ≤ w.heap.size) : OwI base w (.slice none 0 0) [] := ⟨World.ownsRow_nil _ _ _ _, h, fun x hx => by simp at hx⟩
theorem OwI.lit (base : Nat) (w : World) (l : List Int) (h : base ≤ w.heap.size) (hm : l.length ≤ maxLen) (hi : ∀ x ∈ l, inI x) : OwI base (w.alloc (.cells (l.map (Value.int .i64)).toArray 3)) (.slice (some ⟨w.heap.size, 0, none⟩) l.length l.length) l := by
  obtain ⟨W, h1, h2⟩ := virt w base h
  have := BuiltC.lit 3 1 W w l.length (l.map (Value.int .i64)) hm (by simp) h2
  exact OwI.of (W := W) this (by omega) hi
theorem OwI.shape {base : Nat} {w : World} {v : Value} {l : List Int} (h : OwI base w v l) : ∃ a c, v = .slice a l.length c := by
  rcases h.1.2 with ⟨rfl, h4⟩ | ⟨g, cap, cur, rfl, h4, hg, _⟩
  · exact ⟨none, 0, by rw [h4]⟩
  · exact ⟨_, cap, rfl⟩
/-- Behind an append. -/
theorem OwI.app {base : Nat} {W w w3 : World} {v v' : Value} {l : List Int} {x : Int} (h : OwI base w v l) (hW : W.heap.size = base) (h' : BuiltC 3 1 W w3 v' (l.length + 1) (l.map (Value.int .i64) ++ [.int .i64 x])) (hx : inI x) : OwI base w3 v' (l ++ [x]) :=
  OwI.of (Built.ofC h') (by omega) (fun y hy => (List.mem_append.1 hy).elim (h.2.2 y) (fun hy => by simp at hy; rw [hy]; exact hx))

/-- A list of facts built by append, in blocks from base on. -/
def DFs (base : Nat) (w : World) (v : Value) (l : List AtomD) : Prop := ∃ W bss, W.heap.size = base ∧ OutInv 29 W w v l bss
theorem OutInv.rebase {E : TypeId} {W W' w w' : World} {v : Value} {l : List AtomD} {bss : List (List Nat)} {bs' : List Nat} (h : OutInv E W w v l bss) (hW : W'.heap.size ≤ W.heap.size) (hb : Below W'.heap.size W' w') (ko : OnlyAt bs' w w') (hv : ∀ b ∈ blk v, b ∉ bs') (hn : ∀ b ∈ bss.flatten, b ∉ bs') : OutInv E W' w' v l bss := by
  obtain ⟨⟨cs, h1, h2, h3⟩, h6, h7⟩ := h
  refine ⟨⟨cs, ⟨⟨h1.1.1, ?_⟩, hb⟩, h2, fun j d hd => ?_⟩, h6, fun b hm => ⟨Nat.le_trans hW (h7 b hm).1, Nat.lt_of_lt_of_le (h7 b hm).2 ko.size⟩⟩
  · rcases h1.1.2 with h4 | ⟨g, cap, cur, rfl, h4, hg, h5⟩
    · exact .inl h4
    · exact .inr ⟨g, cap, cur, rfl, Nat.le_trans hW h4, by rw [ko.block g (Array.getElem?_eq_some_iff.1 hg).1 (hv g (by simp [blk]))]; exact hg, h5⟩
  · obtain ⟨a, n, c, e1, e2, e3, e4⟩ := h3 j d hd
    exact ⟨a, n, c, e1, e2, e3, e4.onlyAt ko (fun x hx => hn x (getD_mem_flatten hx))⟩
theorem OutInv.blk_lo {E : TypeId} {W w : World} {v : Value} {l : List AtomD} {bss : List (List Nat)} (h : OutInv E W w v l bss) : ∀ b ∈ blk v, W.heap.size ≤ b ∧ b < w.heap.size := by
  obtain ⟨⟨cs, h1, _⟩, _⟩ := h
  intro b hb
  rcases h1.form with ⟨rfl, _⟩ | ⟨g, cap, rfl, _⟩
  · simp [blk] at hb
  · simp [blk] at hb; subst hb; exact h1.lt
theorem DFs.only {base base' : Nat} {w w' : World} {v : Value} {l : List AtomD} {bs : List Nat} (h : DFs base w v l) (hB : base' ≤ base) (k : OnlyAt bs w w') (hn : ∀ b ∈ bs, b < base) : DFs base' w' v l := by
  obtain ⟨W, bss, h1, h2⟩ := h
  have hs := h2.below.size
  have hs2 := k.size
  obtain ⟨W', k1, k2⟩ := virt w' base' (by omega)
  refine ⟨W', bss, k1, h2.rebase (by omega) k2 k (fun b hb hm => ?_) (fun b hb hm => ?_)⟩
  · have := h2.blk_lo b hb; have := hn b hm; omega
  · have := h2.2.2 b hb; have := hn b hm; omega
theorem DFs.below {base : Nat} {w w' : World} {v : Value} {l : List AtomD} (h : DFs base w v l) (hb : Below w.heap.size w w') : DFs base w' v l := h.only (Nat.le_refl _) (OnlyAt.ofBelow [] hb) (fun b hm => by simp at hm)
theorem DFs.mono {base base' : Nat} {w : World} {v : Value} {l : List AtomD} (h : DFs base w v l) (hB : base' ≤ base) : DFs base' w v l := h.only hB (OnlyAt.refl [] w) (fun b hm => by simp at hm)
theorem DFs.draw {base : Nat} {w w' : World} {v : Value} {l : List AtomD} {S : Value} {len cb : Nat} (h : DFs base w v l) (hlt : cb < base) (hd : DSt w w' S len cb) : DFs base w' v l :=
  h.only (Nat.le_refl _) hd.2.1 (fun b hm => by simp at hm; omega)
theorem DFs.done {base : Nat} {w : World} {v : Value} {l : List AtomD} (h : DFs base w v l) : ∃ bs, ROAtomS w v l bs ∧ bs.Nodup ∧ ∀ b ∈ bs, base ≤ b ∧ b < w.heap.size := by
  obtain ⟨W, bss, h1, h2⟩ := h
  obtain ⟨bs, h3, h4⟩ := h2.done
  exact ⟨bs, h3, h4.1, fun b hb => by rw [← h1]; exact h4.2 b hb⟩
theorem DFs.lit (base : Nat) (w : World) (h : base ≤ w.heap.size) : DFs base (w.alloc (.cells #[] 29)) (.slice (some ⟨w.heap.size, 0, none⟩) 0 0) [] := by
  obtain ⟨W, h1, h2⟩ := virt w base h
  exact ⟨W, [], h1, OutInv.lit _ W w h2⟩
/-- The fact that is appended: numbers of its own. -/
theorem DFs.app {base : Nat} {W w w3 : World} {v v' : Value} {l : List AtomD} {cs : List Value} {bss : List (List Nat)} {r : Int} {a : Option Addr} {n c : Nat} {li : List Int}
    (h : OutInv 29 W w v l bss) (h1 : BuiltC 29 2 W w v l.length cs) (h2 : Els w cs l bss) (ho : OwI base w (.slice a n c) li) (hv : ∀ b ∈ blk v, b < base) (hl : ∀ b ∈ bss.flatten, b < base) (hr : inI r)
    (h' : BuiltC 29 2 W w3 v' (l.length + 1) (cs ++ [.int .i64 r, .slice a n c])) (ko : OnlyAt (blk v) w w3) (hv' : ∀ b ∈ blk v', b ∈ blk v ∨ w.heap.size ≤ b) (hB : W.heap.size ≤ base) : DFs W.heap.size w3 v' (l ++ [(r, li)]) := by
  obtain ⟨bs, ho1, ho2, ho3⟩ := ho.owns
  obtain ⟨_, h6, h7⟩ := h
  have hs3 := ko.size
  rw [List.nodup_append] at h6
  obtain ⟨n1, n2, n3⟩ := h6
  have hbx : ∀ b ∈ bs, b ∉ blk v := fun b hb hx => by have := hv b hx; have := ho3 b hb; omega
  have hn : ∀ b ∈ bss.flatten, b ∉ blk v := fun b hb hx => n3 b hx b hb rfl
  have e : (bss ++ [bs]).flatten = bss.flatten ++ bs := by simp
  refine ⟨W, bss ++ [bs], rfl, BuiltA.app h1 h2 h' ko hn hr ho1 hbx, ?_, ?_⟩
  · rw [e, List.nodup_append, List.nodup_append]
    refine ⟨?_, ⟨n2, ho2, fun x hx y hy e => ?_⟩, fun x hx y hy e => ?_⟩
    · rcases h'.form with ⟨rfl, _⟩ | ⟨g, cap, rfl, _, _⟩ <;> simp [blk]
    · have := hl x hx; have := ho3 y hy; omega
    · subst e
      rcases hv' x hx with hx | hx
      · rcases List.mem_append.1 hy with hy | hy
        · exact n3 x hx x hy rfl
        · exact hbx x hy hx
      · rcases List.mem_append.1 hy with hy | hy
        · have := (h7 x hy).2; omega
        · have := (ho3 x hy).2; omega
  · intro b hb
    rw [e] at hb
    rcases List.mem_append.1 hb with hb | hb
    · have := h7 b hb; omega
    · have := ho3 b hb; omega
end Go.Proofs.Ytcfohmcfbjidnaa
