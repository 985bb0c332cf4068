/- What a struct argument reads as ('Rd..'), and the laws' helpers said of it. -/
import Derived.Test.YtpedpbbiamhgdaaSagg
import Derived.Deep.RegionHeld3
import Derived.Deep.DeepCutAuto
namespace Go.Proofs.Ytpedpbbiamhgdaa
open Go.RowKit
set_option linter.unusedVariables false

theorem szOf_ok {a b : Int} (h : 0 ≤ a - b) : szOf a b = a - b := by unfold szOf; rw [if_neg (by omega)]
theorem szOf_no {a b : Int} (h : a < b) : szOf a b = -1 := by unfold szOf; rw [if_pos (by omega)]
def RdSchema (w : World) (v : Value) (d : List Int) : Prop := ∃ a n c, v = .agg #[.slice a n c] ∧ Ints w (.slice a n c) d
theorem RdSchema.below {w w' : World} {v : Value} {d : List Int} (h : RdSchema w v d) (hb : Below w.heap.size w w') : RdSchema w' v d := by
  obtain ⟨a, n, c, rfl, h⟩ := h; exact ⟨a, n, c, rfl, h.below hb⟩
def sizeSchema (d : List Int) : Nat := d.length
def RdAtom (w : World) (v : Value) (d : Int × List Int) : Prop := ∃ a n c, v = .agg #[.int .i64 d.1, .slice a n c] ∧ inI d.1 ∧ Ints w (.slice a n c) d.2
theorem RdAtom.below {w w' : World} {v : Value} {d : Int × List Int} (h : RdAtom w v d) (hb : Below w.heap.size w w') : RdAtom w' v d := by
  obtain ⟨a, n, c, rfl, hi, h⟩ := h; exact ⟨a, n, c, rfl, hi, h.below hb⟩
def sizeAtom (d : Int × List Int) : Nat := d.2.length
theorem szAtomR (w : World) (v : Value) (d : Int × List Int) (left : Int) (h : RdAtom w v d) (h0 : 0 ≤ left) (h1 : left ≤ 1048576) :
    Calls Try.prog 88 #[v, .int .i64 left] w (GaveInt w (szOf left (sizeAtom d))) := by
  obtain ⟨a, n, c, rfl, _, h⟩ := h; exact szAtom_any w _ _ d.2 left h h0 h1
theorem toAtomR (w : World) (v : Value) (d : Int × List Int) (h : RdAtom w v d) (hl : sizeAtom d ≤ 1048576) :
    Calls Try.prog 89 #[v] w (GaveD (fun w' v => RdAtom w' v d) w) := by
  obtain ⟨a, n, c, rfl, hi, h⟩ := h
  refine (toAtom_any w _ _ d.2 h hl).mono ?_
  rintro e w' ⟨v, bs, rfl, ⟨a', n', c', rfl, hv⟩, _, hb⟩
  exact ⟨_, rfl, ⟨_, _, _, rfl, hi, hv.1⟩, hb⟩
theorem eqAtomR (w : World) (v v' : Value) (d : Int × List Int) (h : RdAtom w v d) (h' : RdAtom w v' d) :
    Calls Try.prog 90 #[v, v'] w (GaveBool w true) := by
  obtain ⟨a, n, c, rfl, _, h⟩ := h
  obtain ⟨a', n', c', rfl, _, h'⟩ := h'
  have := eqAtom_any w d.1 d.1 _ _ d.2 d.2 h h'
  rwa [decide_eq_true ⟨rfl, rfl⟩] at this

/-- A slice of int. -/
def RdIntS (w : World) (v : Value) (d : List Int) : Prop := ∃ a n c, v = .slice a n c ∧ Ints w (.slice a n c) d
theorem RdIntS.below {w w' : World} {v : Value} {d : List Int} (h : RdIntS w v d) (hb : Below w.heap.size w w') : RdIntS w' v d := by
  obtain ⟨a, n, c, rfl, h⟩ := h; exact ⟨a, n, c, rfl, h.below hb⟩
def sizeIntS (d : List Int) : Nat := d.length
def ROIntS (w : World) (v : Value) (d : List Int) (bs : List Nat) : Prop := ∃ a n c, v = .slice a n c ∧ OInts w (.slice a n c) d bs
theorem ROIntS.rd {w : World} {v : Value} {d : List Int} {bs : List Nat} (h : ROIntS w v d bs) : RdIntS w v d := by
  obtain ⟨a, n, c, rfl, h⟩ := h; exact ⟨a, n, c, rfl, h.1⟩
theorem ROIntS.below {w w' : World} {v : Value} {d : List Int} {bs : List Nat} (h : ROIntS w v d bs) (hb : Below w.heap.size w w') : ROIntS w' v d bs := by
  obtain ⟨a, n, c, rfl, h⟩ := h; exact ⟨a, n, c, rfl, h.below hb⟩
theorem ROIntS.onlyAt {w w' : World} {v : Value} {d : List Int} {bs bs' : List Nat} (h : ROIntS w v d bs) (k : OnlyAt bs' w w') (hn : ∀ b ∈ bs, b ∉ bs') : ROIntS w' v d bs := by
  obtain ⟨a, n, c, rfl, h⟩ := h; exact ⟨a, n, c, rfl, h.onlyAt k hn⟩
theorem OInts.roIntS {w : World} {v : Value} {d : List Int} {bs : List Nat} (h : OInts w v d bs) : ROIntS w v d bs := by
  obtain ⟨a, n, c, rfl⟩ := h.1.shape; exact ⟨a, n, c, rfl, h⟩
theorem toIntSO (w : World) (v : Value) (d : List Int) (h : RdIntS w v d) (hl : sizeIntS d ≤ 1048576) :
    Calls Try.prog 73 #[v] w (GaveO (fun w' v bs => ROIntS w' v d bs) w) := by
  obtain ⟨a, n, c, rfl, h⟩ := h
  refine (toIntS_any w _ d h hl).mono ?_
  rintro e w' ⟨v, bs, rfl, hi, hf, hb⟩
  exact ⟨_, bs, rfl, hi.roIntS, hf, hb⟩
theorem toIntSR (w : World) (v : Value) (d : List Int) (h : RdIntS w v d) (hl : sizeIntS d ≤ 1048576) :
    Calls Try.prog 73 #[v] w (GaveD (fun w' v => RdIntS w' v d) w) :=
  (toIntSO w v d h hl).mono fun e w' ⟨v, bs, he, ⟨a, n, c, hv, ho⟩, _, hb⟩ => ⟨v, he, ⟨a, n, c, hv, ho.1⟩, hb⟩
theorem eqIntSR (w : World) (v v' : Value) (d : List Int) (h : RdIntS w v d) (h' : RdIntS w v' d) :
    Calls Try.prog 75 #[v, v'] w (GaveBool w true) := by
  obtain ⟨a, n, c, rfl, h⟩ := h
  obtain ⟨a', n', c', rfl, h'⟩ := h'
  have := eqIntS_any w _ _ d d h h'
  rwa [decide_eq_true rfl] at this

def ROSchema (w : World) (v : Value) (d : List Int) (bs : List Nat) : Prop := ∃ a n c, v = .agg #[.slice a n c] ∧ OInts w (.slice a n c) d bs
theorem ROSchema.rd {w : World} {v : Value} {d : List Int} {bs : List Nat} (h : ROSchema w v d bs) : RdSchema w v d := by
  obtain ⟨a, n, c, rfl, h⟩ := h; exact ⟨a, n, c, rfl, h.1⟩
theorem ROSchema.below {w w' : World} {v : Value} {d : List Int} {bs : List Nat} (h : ROSchema w v d bs) (hb : Below w.heap.size w w') : ROSchema w' v d bs := by
  obtain ⟨a, n, c, rfl, h⟩ := h; exact ⟨a, n, c, rfl, h.below hb⟩
theorem ROSchema.onlyAt {w w' : World} {v : Value} {d : List Int} {bs bs' : List Nat} (h : ROSchema w v d bs) (k : OnlyAt bs' w w') (hn : ∀ b ∈ bs, b ∉ bs') : ROSchema w' v d bs := by
  obtain ⟨a, n, c, rfl, h⟩ := h; exact ⟨a, n, c, rfl, h.onlyAt k hn⟩
/-- An atom that a call has made. -/
def ROAtom (w : World) (v : Value) (d : Int × List Int) (bs : List Nat) : Prop := ∃ a n c, v = .agg #[.int .i64 d.1, .slice a n c] ∧ inI d.1 ∧ OInts w (.slice a n c) d.2 bs
theorem ROAtom.rd {w : World} {v : Value} {d : Int × List Int} {bs : List Nat} (h : ROAtom w v d bs) : RdAtom w v d := by
  obtain ⟨a, n, c, rfl, hi, h⟩ := h; exact ⟨a, n, c, rfl, hi, h.1⟩
theorem ROAtom.below {w w' : World} {v : Value} {d : Int × List Int} {bs : List Nat} (h : ROAtom w v d bs) (hb : Below w.heap.size w w') : ROAtom w' v d bs := by
  obtain ⟨a, n, c, rfl, hi, h⟩ := h; exact ⟨a, n, c, rfl, hi, h.below hb⟩
theorem ROAtom.onlyAt {w w' : World} {v : Value} {d : Int × List Int} {bs bs' : List Nat} (h : ROAtom w v d bs) (k : OnlyAt bs' w w') (hn : ∀ b ∈ bs, b ∉ bs') : ROAtom w' v d bs := by
  obtain ⟨a, n, c, rfl, hi, h⟩ := h; exact ⟨a, n, c, rfl, hi, h.onlyAt k hn⟩
theorem toAtomO (w : World) (v : Value) (d : Int × List Int) (h : RdAtom w v d) (hl : sizeAtom d ≤ 1048576) :
    Calls Try.prog 89 #[v] w (GaveO (fun w' v bs => ROAtom w' v d bs) w) := by
  obtain ⟨a, n, c, rfl, hi, h⟩ := h
  refine (toAtom_any w _ _ d.2 h hl).mono ?_
  rintro e w' ⟨v, bs, rfl, ⟨a', n', c', rfl, hv⟩, hf, hb⟩
  exact ⟨_, bs, rfl, ⟨_, _, _, rfl, hi, hv⟩, hf, hb⟩
end Go.Proofs.Ytpedpbbiamhgdaa
