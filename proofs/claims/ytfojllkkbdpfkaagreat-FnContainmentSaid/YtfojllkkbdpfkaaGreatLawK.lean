/- Merged of Slaw, Sagg, Rd, Mark. -/
import Derived.Test.YtfojllkkbdpfkaaGreatRows
import Derived.Test.YtfojllkkbdpfkaaGreatBase
import Derived.BigQuiet
import Derived.Deep.RegionHeld3
import Derived.Deep.DeepCutAuto
/-! Slaw -/
namespace Go.Proofs.YtfojllkkbdpfkaaGreat
open Go.RowKit
set_option linter.unusedVariables false

theorem drewN_below (w : World) (n : Nat) : Below w.heap.size w (w.drewN n) := ⟨rfl, rfl, rfl, Nat.le_refl _, fun _ _ => rfl⟩
theorem info_i64 : (Tryz.prog.info? 3).map (fun i => (i.zero, i.size, i.bytes)) = some (some (.int .i64 0), 1, 8) := by kernel_rfl

theorem dec_no {l l' : List Int} (j : Nat) (hj : j < l.length) (h : l.getD j 0 ≠ l'.getD j 0) : decide (l = l') = false := decide_eq_false (fun e => h (by rw [e]))
theorem dec_len {l l' : List Int} (h : l.length ≠ l'.length) : decide (l = l') = false := decide_eq_false (fun e => h (by rw [e]))
theorem dec_yes {l l' : List Int} (h : l.length = l'.length) (hj : ∀ j, j < l.length → l.getD j 0 = l'.getD j 0) : decide (l = l') = true := by
  refine decide_eq_true (List.ext_getElem h fun j h1 h2 => ?_)
  have := hj j h1
  simpa [List.getD, List.getElem?_eq_getElem h1, List.getElem?_eq_getElem h2] using this

end Go.Proofs.YtfojllkkbdpfkaaGreat

/-! Sagg -/
namespace Go.Proofs.YtfojllkkbdpfkaaGreat
open Go.RowKit
set_option linter.unusedVariables false

end Go.Proofs.YtfojllkkbdpfkaaGreat

/-! Rd -/
namespace Go.Proofs.YtfojllkkbdpfkaaGreat
open Go.RowKit
set_option linter.unusedVariables false

def RdSchema (w : World) (v : Value) (d : List Int) : Prop := ∃ a n c, v = .agg #[.slice a n c] ∧ Ints w (.slice a n c) d
theorem RdSchema.below {w w' : World} {v : Value} {d : List Int} (h : RdSchema w v d) (hb : Below w.heap.size w w') : RdSchema w' v d := by
  obtain ⟨a, n, c, rfl, h⟩ := h; exact ⟨a, n, c, rfl, h.below hb⟩
def RdAtom (w : World) (v : Value) (d : Int × List Int) : Prop := ∃ a n c, v = .agg #[.int .i64 d.1, .slice a n c] ∧ inI d.1 ∧ Ints w (.slice a n c) d.2
theorem RdAtom.below {w w' : World} {v : Value} {d : Int × List Int} (h : RdAtom w v d) (hb : Below w.heap.size w w') : RdAtom w' v d := by
  obtain ⟨a, n, c, rfl, hi, h⟩ := h; exact ⟨a, n, c, rfl, hi, h.below hb⟩
/-- A slice of int. -/
def RdIntS (w : World) (v : Value) (d : List Int) : Prop := ∃ a n c, v = .slice a n c ∧ Ints w (.slice a n c) d
theorem RdIntS.below {w w' : World} {v : Value} {d : List Int} (h : RdIntS w v d) (hb : Below w.heap.size w w') : RdIntS w' v d := by
  obtain ⟨a, n, c, rfl, h⟩ := h; exact ⟨a, n, c, rfl, h.below hb⟩
def sizeIntS (d : List Int) : Nat := d.length
def ROIntS (w : World) (v : Value) (d : List Int) (bs : List Nat) : Prop := ∃ a n c, v = .slice a n c ∧ OInts w (.slice a n c) d bs
theorem ROIntS.rd {w : World} {v : Value} {d : List Int} {bs : List Nat} (h : ROIntS w v d bs) : RdIntS w v d := by
  obtain ⟨a, n, c, rfl, h⟩ := h; exact ⟨a, n, c, rfl, h.1⟩
theorem ROIntS.below {w w' : World} {v : Value} {d : List Int} {bs : List Nat} (h : ROIntS w v d bs) (hb : Below w.heap.size w w') : ROIntS w' v d bs := by
  obtain ⟨a, n, c, rfl, h⟩ := h; exact ⟨a, n, c, rfl, h.below hb⟩
theorem ROIntS.onlyAt {w w' : World} {v : Value} {d : List Int} {bs bs' : List Nat} (h : ROIntS w v d bs) (k : OnlyAt bs' w w') (hn : ∀ b ∈ bs, b ∉ bs') : ROIntS w' v d bs := by
  obtain ⟨a, n, c, rfl, h⟩ := h; exact ⟨a, n, c, rfl, h.onlyAt k hn⟩
def ROSchema (w : World) (v : Value) (d : List Int) (bs : List Nat) : Prop := ∃ a n c, v = .agg #[.slice a n c] ∧ OInts w (.slice a n c) d bs
theorem ROSchema.rd {w : World} {v : Value} {d : List Int} {bs : List Nat} (h : ROSchema w v d bs) : RdSchema w v d := by
  obtain ⟨a, n, c, rfl, h⟩ := h; exact ⟨a, n, c, rfl, h.1⟩
theorem ROSchema.below {w w' : World} {v : Value} {d : List Int} {bs : List Nat} (h : ROSchema w v d bs) (hb : Below w.heap.size w w') : ROSchema w' v d bs := by
  obtain ⟨a, n, c, rfl, h⟩ := h; exact ⟨a, n, c, rfl, h.below hb⟩
theorem ROSchema.onlyAt {w w' : World} {v : Value} {d : List Int} {bs bs' : List Nat} (h : ROSchema w v d bs) (k : OnlyAt bs' w w') (hn : ∀ b ∈ bs, b ∉ bs') : ROSchema w' v d bs := by
  obtain ⟨a, n, c, rfl, h⟩ := h; exact ⟨a, n, c, rfl, h.onlyAt k hn⟩
/-- An atom that a call has made. -/
def ROAtom (w : World) (v : Value) (d : Int × List Int) (bs : List Nat) : Prop := ∃ a n c, v = .agg #[.int .i64 d.1, .slice a n c] ∧ inI d.1 ∧ OInts w (.slice a n c) d.2 bs
theorem ROAtom.rd {w : World} {v : Value} {d : Int × List Int} {bs : List Nat} (h : ROAtom w v d bs) : RdAtom w v d := by
  obtain ⟨a, n, c, rfl, hi, h⟩ := h; exact ⟨a, n, c, rfl, hi, h.1⟩
theorem ROAtom.below {w w' : World} {v : Value} {d : Int × List Int} {bs : List Nat} (h : ROAtom w v d bs) (hb : Below w.heap.size w w') : ROAtom w' v d bs := by
  obtain ⟨a, n, c, rfl, hi, h⟩ := h; exact ⟨a, n, c, rfl, hi, h.below hb⟩
theorem ROAtom.onlyAt {w w' : World} {v : Value} {d : Int × List Int} {bs bs' : List Nat} (h : ROAtom w v d bs) (k : OnlyAt bs' w w') (hn : ∀ b ∈ bs, b ∉ bs') : ROAtom w' v d bs := by
  obtain ⟨a, n, c, rfl, hi, h⟩ := h; exact ⟨a, n, c, rfl, hi, h.onlyAt k hn⟩
end Go.Proofs.YtfojllkkbdpfkaaGreat

/-! Mark -/
namespace Go.Proofs.YtfojllkkbdpfkaaGreat
open Go.RowKit
set_option linter.unusedVariables false

theorem OInts.len_le {w : World} {v : Value} {l : List Int} {bs : List Nat} (h : OInts w v l bs) : l.length ≤ maxLen := h.1.len_le

theorem RdIntS.len_le {w : World} {v : Value} {d : List Int} (h : RdIntS w v d) : sizeIntS d ≤ maxLen := by
  obtain ⟨a', n', c', e, h⟩ := h
  exact h.len_le

end Go.Proofs.YtfojllkkbdpfkaaGreat
