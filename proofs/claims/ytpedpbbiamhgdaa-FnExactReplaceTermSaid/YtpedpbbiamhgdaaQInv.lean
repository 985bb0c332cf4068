/- Own words over any program: a local struct of a head and a []Atom, the []Atom being built ('QInv'). -/
import Derived.Test.YtpedpbbiamhgdaaBuildA
namespace Go.Proofs.Ytpedpbbiamhgdaa
open Go.RowKit
set_option linter.unusedVariables false

theorem BuiltA.ro {E : TypeId} {W w : World} {v : Value} {l : List AtomD} {bss : List (List Nat)} (h : BuiltA E W w v l bss) : ∃ bs, ROAtomS w v l bs ∧ ∀ b ∈ bs, b ∈ blk v ∨ b ∈ bss.flatten := by
  rcases h.cells with ⟨rfl, rfl⟩ | ⟨g, cap, rfl, h1, h2, h3, h4⟩
  · exact ⟨[], ⟨_, _, _, rfl, .inl ⟨_, _, rfl, Nat.zero_le _, rfl, rfl⟩⟩, fun b hb => by simp at hb⟩
  · by_cases h0 : l.length = 0
    · have hl : l = [] := List.eq_nil_of_length_eq_zero h0
      subst hl
      exact ⟨[], ⟨_, _, _, rfl, .inl ⟨_, _, rfl, h2, rfl, rfl⟩⟩, fun b hb => by simp at hb⟩
    · exact ⟨g :: bss.flatten, ⟨_, _, _, rfl, .inr ⟨g, 0, _, cap, bss, rfl, rfl, by omega, h1, h2, rfl, h4⟩⟩, fun b hb => by simpa [blk] using hb⟩

theorem OnlyAt.frozen {bs : List Nat} {w w' : World} (h : OnlyAt bs w w') {b o : Nat} (hlt : b < w.heap.size) (hn : b ∉ bs) (hf : w.frozen? ⟨b, o, none⟩ = false) : w'.frozen? ⟨b, o, none⟩ = false := by
  have e : w'.heap[b]? = w.heap[b]? := h.block b hlt hn
  unfold World.frozen? at hf ⊢
  simp only [e]; exact hf
theorem blk_lt {E : TypeId} {size n : Nat} {W w : World} {v : Value} {cs : List Value} (h : BuiltC E size W w v n cs) : ∀ b ∈ blk v, b < w.heap.size := by
  intro b hb
  rcases h.form with ⟨rfl, _⟩ | ⟨g, cap, rfl, _, _⟩
  · simp [blk] at hb
  · simp [blk] at hb; subst hb; exact h.lt.2
theorem Els.grow {w w' : World} {cs : List Value} {l : List AtomD} {bss : List (List Nat)} (h : Els w cs l bss) (hb : Below w.heap.size w w') : Els w' cs l bss :=
  ⟨h.1, fun j d hd => by obtain ⟨a, n, c, e1, e2, e3, e4⟩ := h.2 j d hd; exact ⟨a, n, c, e1, e2, e3, e4.below hb⟩⟩

/-- A struct of a head and a []Atom in the block behind W's, the []Atom being built. -/
def QInv (E : TypeId) (W w : World) (vh : Value) (l : List AtomD) (xv : Value) (bss : List (List Nat)) : Prop :=
  BuiltA E W w xv l bss ∧ w.cell? ⟨W.heap.size, 1, none⟩ = some xv ∧ w.cell? ⟨W.heap.size, 0, none⟩ = some vh ∧ w.frozen? ⟨W.heap.size, 1, none⟩ = false ∧
  (∀ b ∈ blk xv, b ≠ W.heap.size ∧ b ∉ bss.flatten) ∧ (∀ b ∈ bss.flatten, W.heap.size < b ∧ b < w.heap.size) ∧ W.heap.size < w.heap.size
theorem QInv.step {E : TypeId} {W w w2 wa w3 : World} {vh xv v' : Value} {l : List AtomD} {cs : List Value} {bss : List (List Nat)} {r : Int} {a : Option Addr} {n c : Nat} {li : List Int} {bs : List Nat}
    (h : QInv E W w vh l xv bss) (h1 : BuiltC E 2 W w xv l.length cs) (h2 : Els w cs l bss) (hb2 : Below w.heap.size w w2) (hba : Below w2.heap.size w2 wa) (ho : OInts w2 (.slice a n c) li bs) (hfr : ∀ b ∈ bs, w.heap.size ≤ b ∧ b < w2.heap.size) (hr : inI r)
    (h' : BuiltC E 2 W w3 v' (l.length + 1) (cs ++ [.int .i64 r, .slice a n c])) (ko : OnlyAt (blk xv) wa w3) (hv' : ∀ b ∈ blk v', b ∈ blk xv ∨ wa.heap.size ≤ b) :
    QInv E W (w3.setCell ⟨W.heap.size, 1, none⟩ v') vh (l ++ [(r, li)]) v' (bss ++ [bs]) := by
  obtain ⟨_, h3, h4, h5, h6, h7, h8⟩ := h
  have hwa : Below w.heap.size w wa := bnext hb2 hba
  have hs2 := hb2.size
  have hsa := hba.size
  have hs3 := ko.size
  have hlt := blk_lt h1
  have hbx : ∀ b ∈ bs, b ∉ blk xv := fun b hb hx => by have := hlt b hx; have := (hfr b hb).1; omega
  have hn : ∀ b ∈ bss.flatten, b ∉ blk xv := fun b hb hx => (h6 b hx).2 hb
  have hxb : W.heap.size ∉ blk xv := fun hx => (h6 _ hx).1 rfl
  have h9 := BuiltA.app (h1.grow hwa) (h2.grow hwa) h' ko hn hr (ho.below hba) hbx
  have hfl : ∀ b ∈ (bss ++ [bs]).flatten, b ∈ bss.flatten ∨ b ∈ bs := by intro b hb; simpa using hb
  have kst := OnlyAt.setCell w3 W.heap.size 1 v'
  have k3 := ko.cell hxb (cellk hwa h3)
  have k4 := ko.cell hxb (cellk hwa h4)
  have hsz : (w3.setCell ⟨W.heap.size, 1, none⟩ v').heap.size = w3.heap.size := by simp [World.setCell]
  refine ⟨h9.onlyAt kst (fun x hx => by simp at hx; omega) (fun b hb hx => ?_) (fun b hb hx => ?_), World.cell?_setCell_same _ _ _ k3, ?_, ?_, fun b hb => ?_, fun b hb => ?_, by rw [hsz]; omega⟩
  · simp at hx; subst hx
    rcases hv' _ hb with h | h
    · exact hxb h
    · omega
  · simp at hx; subst hx
    rcases hfl _ hb with h | h
    · have := (h7 _ h).1; omega
    · have := (hfr _ h).1; omega
  · rw [World.cell?_setCell_other _ _ _ _ (by intro e; cases e)]; exact k4
  · have hf3 := ko.frozen (o := 1) (by omega) hxb (frok hwa h3 h5)
    simpa using hf3
  · rcases hv' _ hb with h | h
    · refine ⟨(h6 _ h).1, fun hx => ?_⟩
      rcases hfl _ hx with h' | h'
      · exact (h6 _ h).2 h'
      · exact hbx _ h' h
    · refine ⟨by omega, fun hx => ?_⟩
      rcases hfl _ hx with h' | h'
      · have := (h7 _ h').2; omega
      · have := (hfr _ h').2; omega
  · rw [hsz]
    rcases hfl _ hb with h | h
    · have := h7 _ h; exact ⟨this.1, by omega⟩
    · have := hfr _ h; exact ⟨by omega, by omega⟩
theorem QInv.done {E : TypeId} {W w : World} {vh xv : Value} {l : List AtomD} {bss : List (List Nat)} {hd : List Int} {bh : List Nat} {rb : Nat} (h : QInv E W w vh l xv bss) (ho : OInts W vh hd bh) (hb : ∀ b ∈ bh, b ≠ rb) (hr : rb < W.heap.size) {w' : World} (k : OnlyAt [rb] w w') : Ints w' vh hd ∧ RdAtomS w' xv l := by
  obtain ⟨h1, h3, h4, h5, h6, h7, h8⟩ := h
  refine ⟨((ho.below h1.below).onlyAt k (fun b hb' hx => hb b hb' (by simpa using hx))).1, ?_⟩
  obtain ⟨bs, hro, hbs⟩ := h1.ro
  obtain ⟨cs, hc, _⟩ := h1
  refine (hro.onlyAt k (fun b hb' hx => ?_)).rd
  simp at hx; subst hx
  rcases hbs _ hb' with h | h
  · rcases hc.form with ⟨rfl, _⟩ | ⟨g, cap, rfl, _, _⟩
    · simp [blk] at h
    · simp [blk] at h; subst h; have := hc.lt.1; omega
  · have := (h7 _ h).1; omega
theorem OnlyAt.above {bs bs' : List Nat} {w0 w w' : World} (h : OnlyAt bs w0 w) (k : OnlyAt bs' w w') (hn : ∀ b ∈ bs', w0.heap.size ≤ b) : OnlyAt bs w0 w' :=
  ⟨k.os.trans h.os, k.tape.trans h.tape, k.output.trans h.output, Nat.le_trans h.size k.size, fun i hi hb =>
    (k.block i (Nat.lt_of_lt_of_le hi h.size) (fun e => by have := hn i e; omega)).trans (h.block i hi hb)⟩
theorem RdSl.onlyAt {α : Type} {k : Nat} {C : World → List Value → α → Prop} {bs : List Nat} {w w' : World} {v : Value} {l : List α} (h : RdSl k C w v l) (ko : OnlyAt bs w w') (hn : ∀ b ∈ blk v, b ∉ bs) (hC : ∀ cs d, C w cs d → C w' cs d) : RdSl k C w' v l := by
  obtain ⟨a, n, cap, rfl, hl, hn', hm, hc⟩ := h
  refine ⟨a, n, cap, rfl, hl, hn', hm, fun h0 => ?_⟩
  obtain ⟨b, off, rfl, hlt, hc⟩ := hc h0
  refine ⟨b, off, rfl, Nat.lt_of_lt_of_le hlt ko.size, fun j hj => ?_⟩
  obtain ⟨cs, h1, h2, h3⟩ := hc j hj
  refine ⟨cs, h1, fun i hi => ?_, hC _ _ h3⟩
  rw [← h2 i hi]
  exact World.cell?_of_block (ko.block b hlt (hn b (by simp [blk])))
theorem QInv.done2 {E : TypeId} {W w : World} {vh xv : Value} {l : List AtomD} {bss : List (List Nat)} {hd : List Int} {bh : List Nat} {rb : Nat} (h : QInv E W w vh l xv bss) (ho : OInts w vh hd bh) (hb : ∀ b ∈ bh, b ≠ rb) (hr : rb < W.heap.size) {w' : World} (k : OnlyAt [rb] w w') : Ints w' vh hd ∧ RdAtomS w' xv l := by
  obtain ⟨h1, h3, h4, h5, h6, h7, h8⟩ := h
  refine ⟨(ho.onlyAt k (fun b hb' hx => hb b hb' (by simpa using hx))).1, ?_⟩
  obtain ⟨bs, hro, hbs⟩ := h1.ro
  obtain ⟨cs, hc, _⟩ := h1
  refine (hro.onlyAt k (fun b hb' hx => ?_)).rd
  simp at hx; subst hx
  rcases hbs _ hb' with h | h
  · rcases hc.form with ⟨rfl, _⟩ | ⟨g, cap, rfl, _, _⟩
    · simp [blk] at h
    · simp [blk] at h; subst h; have := hc.lt.1; omega
  · have := (h7 _ h).1; omega
theorem QInv.slice {E : TypeId} {W w : World} {vh xv : Value} {l : List AtomD} {bss : List (List Nat)} (h : QInv E W w vh l xv bss) : ∃ a n c, xv = .slice a n c := by
  obtain ⟨⟨cs, hc, _⟩, _⟩ := h
  rcases hc.form with ⟨rfl, _⟩ | ⟨g, cap, rfl, _, _⟩
  · exact ⟨_, _, _, rfl⟩
  · exact ⟨_, _, _, rfl⟩
end Go.Proofs.Ytpedpbbiamhgdaa
