/- Contract of chapter 5's spec: ParseFact. -/
import Derived.Test.YtnbljidjbknleaaDoorSffact
import Derived.Test.YtnbljidjbknleaaDoorScut
import Derived.Test.YtnbljidjbknleaaDoorQInv
import Derived.Test.YtnbljidjbknleaaDoorPspec
import Derived.Test.YtnbljidjbknleaaDoorSpatom
import Derived.Laws.Strings2
namespace Go.Proofs.YtnbljidjbknleaaDoor
open Go Go.Sort Go.RowKit
set_option linter.unusedVariables false

def pint1 (p : List UInt8) : Int := if sOk p then sRes p else -1
def pfRel (l : List UInt8) : List UInt8 := (l.drop 1).take 1
def pfMid (l : List UInt8) : List UInt8 := (l.take (l.length - 1)).drop 3
def pfVal (l : List UInt8) : Int × List Int := (sRes (pfRel l), (cutL 44 (pfMid l)).map pint1)
def pfOk (s : List Int) (l : List UInt8) : Bool := decide (5 ≤ l.length) && (sOk (pfRel l) && (isFactB s (pfVal l).1 (pfVal l).2 && decide (ffact (pfVal l).1 (pfVal l).2 = l)))
def pfRes (s : List Int) (l : List UInt8) : Int × List Int := if pfOk s l then pfVal l else (0, [])
theorem pint1_inI (p : List UInt8) : inI (pint1 p) := by
  have := sRes_bd p
  unfold pint1 inI
  split <;> omega
theorem pf_no {s : List Int} {l : List UInt8} (h : pfOk s l = false) : pfRes s l = (0, []) := by unfold pfRes; rw [h]; rfl
theorem pf_yes {s : List Int} {l : List UInt8} (h : pfOk s l = true) : pfRes s l = pfVal l := by unfold pfRes; rw [h]; rfl

theorem pfRes_m (s : List Int) (l : List UInt8) : mAtom (pfRes s l) ≤ 1048576 := by
  unfold mAtom pfRes
  split
  · rename_i h
    unfold pfOk at h
    rw [Bool.and_eq_true, Bool.and_eq_true, Bool.and_eq_true] at h
    have := fact_len h.2.2.1
    omega
  · simp

/-- A struct of a number and a list of numbers in the block behind W's, the list being built. -/
def FInv (E : TypeId) (W w : World) (r : Int) (xv : Value) (l : List Int) : Prop :=
  Built .i64 E W w xv l ∧ w.cell? ⟨W.heap.size, 0, none⟩ = some (.int .i64 r) ∧ w.cell? ⟨W.heap.size, 1, none⟩ = some xv ∧ w.frozen? ⟨W.heap.size, 1, none⟩ = false ∧ (∀ b ∈ blk xv, b ≠ W.heap.size) ∧ W.heap.size < w.heap.size
theorem FInv.grow {E : TypeId} {W w w' : World} {r : Int} {xv : Value} {l : List Int} (h : FInv E W w r xv l) (hb : Below w.heap.size w w') : FInv E W w' r xv l := by
  obtain ⟨h1, h2, h3, h4, h5, h6⟩ := h
  exact ⟨h1.grow hb, cellk hb h2, cellk hb h3, frok hb h3 h4, h5, Nat.lt_of_lt_of_le h6 hb.size⟩
theorem FInv.step {E : TypeId} {W w w3 : World} {r : Int} {xv v' : Value} {l : List Int} {x : Int} (h : FInv E W w r xv l)
    (h' : BuiltC E 1 W w3 v' (l.length + 1) (l.map (Value.int .i64) ++ [.int .i64 x])) (ko : OnlyAt (blk xv) w w3) (hv' : ∀ b ∈ blk v', b ∈ blk xv ∨ w.heap.size ≤ b) :
    FInv E W (w3.setCell ⟨W.heap.size, 1, none⟩ v') r v' (l ++ [x]) := by
  obtain ⟨h1, h2, h3, h4, h5, h6⟩ := h
  have hxb : W.heap.size ∉ blk xv := fun hx => h5 _ hx rfl
  have k2 := ko.cell hxb h2
  have k3 := ko.cell hxb h3
  have k4 := ko.frozen (o := 1) h6 hxb h4
  have hs3 := ko.size
  have hnb : ∀ b ∈ blk v', b ≠ W.heap.size := fun b hb e => by
    rcases hv' b hb with h | h
    · exact h5 b h e
    · omega
  have hB := Built.ofC h'
  have kst := OnlyAt.setCell w3 W.heap.size 1 v'
  refine ⟨⟨⟨hB.1.1, ?_⟩, OnlyAt.below hB.2 kst (fun x hx => by simp at hx; omega)⟩, ?_, World.cell?_setCell_same _ _ _ k3, by rw [World.frozen?_setCell]; exact k4, hnb, by simp [World.setCell]; omega⟩
  · rcases hB.1.2 with h4 | ⟨g, cap, cur, rfl, h4, hg, h5⟩
    · exact .inl h4
    · have hlt : g < w3.heap.size := by
        rcases Nat.lt_or_ge g w3.heap.size with h6 | h6
        · exact h6
        · rw [Array.getElem?_eq_none h6] at hg; cases hg
      exact .inr ⟨g, cap, cur, rfl, h4, by rw [kst.block g hlt (fun hm => hnb g (by simp [blk]) (by simpa using hm))]; exact hg, h5⟩
  · rw [World.cell?_setCell_other _ _ _ _ (by intro e; cases e)]; exact k2

def GavePF (s : List Int) (l : List UInt8) (w : World) (e : Ending) (w' : World) : Prop := ∃ r0, e = .returned (.tuple #[r0, .bool (pfOk s l)]) ∧ RdAtom w' r0 (pfRes s l) ∧ Below w.heap.size w w'
end Go.Proofs.YtnbljidjbknleaaDoor
