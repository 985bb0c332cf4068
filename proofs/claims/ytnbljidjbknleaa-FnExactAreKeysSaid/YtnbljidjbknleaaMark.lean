/- The laws' helpers that write numbers into a result and look for them again: markIntS, heldIntS, markAtom, heldAtom. -/
import Derived.Test.YtnbljidjbknleaaRd
namespace Go.Proofs.Ytnbljidjbknleaa
open Go.RowKit
set_option linter.unusedVariables false

/-- What a mark leaves. -/
def GaveMark (n : Int) (bs : List Nat) (R : World → Prop) (w : World) (e : Ending) (w' : World) : Prop := e = .returned (.int .i64 n) ∧ R w' ∧ OnlyAt bs w w'

theorem OInts.len_le {w : World} {v : Value} {l : List Int} {bs : List Nat} (h : OInts w v l bs) : l.length ≤ maxLen := h.1.len_le

def mIntS (d : List Int) : Nat := d.length
def mkIntS (k : Int) (d : List Int) : List Int := iota k d.length
def mAtom (d : Int × List Int) : Nat := d.2.length
def mkAtom (k : Int) (d : Int × List Int) : Int × List Int := (d.1, iota k d.2.length)
theorem mIntS_le {d : List Int} (h : sizeIntS d ≤ 1048576) : mIntS d ≤ 1048576 := h
theorem mAtom_le {d : Int × List Int} (h : sizeAtom d ≤ 1048576) : mAtom d ≤ 1048576 := h
theorem RdIntS.len_n {w : World} {a : Option Addr} {n c : Nat} {d : List Int} (h : RdIntS w (.slice a n c) d) : sizeIntS d = n := by
  obtain ⟨a', n', c', e, h⟩ := h
  obtain ⟨x, y, e2⟩ := h.form
  cases e; cases e2; rfl
theorem RdIntS.len_le {w : World} {v : Value} {d : List Int} (h : RdIntS w v d) : sizeIntS d ≤ maxLen := by
  obtain ⟨a', n', c', e, h⟩ := h
  exact h.len_le

def mSchema (d : List Int) : Nat := d.length
def mkSchema (k : Int) (d : List Int) : List Int := iota k d.length
theorem mSchema_le {d : List Int} (h : sizeSchema d ≤ 1048576) : mSchema d ≤ 1048576 := h
end Go.Proofs.Ytnbljidjbknleaa
