/- Own words over any program: a []Atom (or []Fact) that a call builds by append in a variable ('OutInv'). -/
import Derived.Test.YtpedpbbiamhgdaaQInv
namespace Go.Proofs.Ytpedpbbiamhgdaa
open Go.RowKit
set_option linter.unusedVariables false

def OutInv (E : TypeId) (W w : World) (v : Value) (l : List AtomD) (bss : List (List Nat)) : Prop :=
  BuiltA E W w v l bss ∧ (blk v ++ bss.flatten).Nodup ∧ (∀ b ∈ bss.flatten, W.heap.size ≤ b ∧ b < w.heap.size)
theorem OutInv.below {E : TypeId} {W w : World} {v : Value} {l : List AtomD} {bss : List (List Nat)} (h : OutInv E W w v l bss) : Below W.heap.size W w := h.1.below
theorem OutInv.grow {E : TypeId} {W w w' : World} {v : Value} {l : List AtomD} {bss : List (List Nat)} (h : OutInv E W w v l bss) (hb : Below w.heap.size w w') : OutInv E W w' v l bss :=
  ⟨h.1.grow hb, h.2.1, fun b hx => ⟨(h.2.2 b hx).1, Nat.lt_of_lt_of_le (h.2.2 b hx).2 hb.size⟩⟩
theorem OutInv.lit (E : TypeId) (W w : World) (hb : Below W.heap.size W w) : OutInv E W (w.alloc (.cells #[] E)) (.slice (some ⟨w.heap.size, 0, none⟩) 0 0) [] [] := by
  have h := BuiltC.lit E 2 W w 0 [] (Nat.zero_le _) rfl hb
  exact ⟨⟨[], h, rfl, fun j d h => by simp at h⟩, by simp [blk], fun b hb => by simp at hb⟩
theorem OutInv.nil (E : TypeId) (W w : World) (hb : Below W.heap.size W w) : OutInv E W w (.slice none 0 0) [] [] :=
  ⟨BuiltA.nil E W w hb, by simp [blk], fun b hb => by simp at hb⟩
theorem OutInv.parts {E : TypeId} {W w : World} {v : Value} {l : List AtomD} {bss : List (List Nat)} (h : OutInv E W w v l bss) : ∃ cs, BuiltC E 2 W w v l.length cs ∧ Els w cs l bss := h.1
theorem OutInv.step {E : TypeId} {W w w2 wa w3 : World} {v v' : Value} {l : List AtomD} {cs : List Value} {bss : List (List Nat)} {r : Int} {a : Option Addr} {n c : Nat} {li : List Int} {bs : List Nat}
    (h : OutInv E W w v l bss) (h1 : BuiltC E 2 W w v l.length cs) (h2 : Els w cs l bss) (hb2 : Below w.heap.size w w2) (hba : Below w2.heap.size w2 wa) (ho : OInts w2 (.slice a n c) li bs) (hfr : Fresh w w2 bs) (hr : inI r)
    (h' : BuiltC E 2 W w3 v' (l.length + 1) (cs ++ [.int .i64 r, .slice a n c])) (ko : OnlyAt (blk v) wa w3) (hv' : ∀ b ∈ blk v', b ∈ blk v ∨ wa.heap.size ≤ b) :
    OutInv E W w3 v' (l ++ [(r, li)]) (bss ++ [bs]) := by
  obtain ⟨_, h6, h7⟩ := h
  have hwa : Below w.heap.size w wa := bnext hb2 hba
  have hs2 := hb2.size
  have hsa := hba.size
  have hs3 := ko.size
  have hW := h1.2.size
  have hlt := blk_lt h1
  rw [List.nodup_append] at h6
  obtain ⟨n1, n2, n3⟩ := h6
  have hbx : ∀ b ∈ bs, b ∉ blk v := fun b hb hx => by have := hlt b hx; have := hfr.lo b hb; omega
  have hn : ∀ b ∈ bss.flatten, b ∉ blk v := fun b hb hx => n3 b hx b hb rfl
  have e : (bss ++ [bs]).flatten = bss.flatten ++ bs := by simp
  refine ⟨BuiltA.app (h1.grow hwa) (h2.grow hwa) h' ko hn hr (ho.below hba) hbx, ?_, ?_⟩
  · rw [e, List.nodup_append, List.nodup_append]
    refine ⟨?_, ⟨n2, hfr.1, fun x hx y hy e => ?_⟩, fun x hx y hy e => ?_⟩
    · rcases h'.form with ⟨rfl, _⟩ | ⟨g, cap, rfl, _, _⟩ <;> simp [blk]
    · have := (h7 x hx).2; have := hfr.lo y hy; omega
    · subst e
      rcases hv' x hx with hx | hx
      · rcases List.mem_append.1 hy with hy | hy
        · exact n3 x hx x hy rfl
        · exact hbx x hy hx
      · rcases List.mem_append.1 hy with hy | hy
        · have := (h7 x hy).2; omega
        · have := (hfr.2 x hy).2; omega
  · intro b hb
    rw [e] at hb
    rcases List.mem_append.1 hb with hb | hb
    · have := h7 b hb; omega
    · have := hfr.2 b hb; omega
theorem OutInv.done {E : TypeId} {W w : World} {v : Value} {l : List AtomD} {bss : List (List Nat)} (h : OutInv E W w v l bss) : ∃ bs, ROAtomS w v l bs ∧ Fresh W w bs := by
  obtain ⟨bs, h1, h2, _⟩ := h.1.owns h.2.1 h.2.2
  exact ⟨bs, h1, h2⟩
end Go.Proofs.Ytpedpbbiamhgdaa
