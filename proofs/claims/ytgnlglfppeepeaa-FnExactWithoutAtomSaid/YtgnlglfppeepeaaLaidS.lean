/- A query that a drawn statement lays into a variable of its own: the variable's box, read or owned. -/
import Derived.Test.YtgnlglfppeepeaaS9a
namespace Go.Proofs.Ytgnlglfppeepeaa
open Go Go.Sort Go.RowKit
set_option linter.unusedVariables false

theorem zbk {w w' : World} {B : Nat} {o : Obj} (hb : Below w.heap.size w w') (hz : w.heap[B]? = some o) : w'.heap[B]? = some o := (hb.block B (Array.getElem?_eq_some_iff.1 hz).1).trans hz
theorem zb_lt {w : World} {B : Nat} {o : Obj} (hz : w.heap[B]? = some o) : B < w.heap.size := (Array.getElem?_eq_some_iff.1 hz).1
def LaidR (w0 : World) (q : QueryD) (wx : World) (B : Nat) (a : Option Addr) (n c : Nat) (a' : Option Addr) (n' c' : Nat) : Prop :=
  wx.cell? ⟨B, 0, none⟩ = some (.slice a n c) ∧ wx.cell? ⟨B, 1, none⟩ = some (.slice a' n' c') ∧ RdQuery wx (.agg #[.slice a n c, .slice a' n' c']) q ∧ w0.heap.size ≤ B ∧ B < wx.heap.size ∧ Below w0.heap.size w0 wx
def LaidO (w0 : World) (q : QueryD) (wx : World) (B : Nat) (a : Option Addr) (n c : Nat) (a' : Option Addr) (n' c' : Nat) (bs : List Nat) : Prop :=
  wx.cell? ⟨B, 0, none⟩ = some (.slice a n c) ∧ wx.cell? ⟨B, 1, none⟩ = some (.slice a' n' c') ∧ ROQuery wx (.agg #[.slice a n c, .slice a' n' c']) q bs ∧ Fresh w0 wx bs ∧ B ∉ bs ∧ w0.heap.size ≤ B ∧ B < wx.heap.size ∧ Below w0.heap.size w0 wx
theorem zb_cell {w : World} {B : Nat} {T : TypeId} {x y : Value} (hz : w.heap[B]? = some (.cells #[x, y] T)) : w.cell? ⟨B, 0, none⟩ = some x ∧ w.cell? ⟨B, 1, none⟩ = some y := by
  unfold World.cell?
  rw [hz]
  exact ⟨by simp, by simp⟩
theorem zb_froz {w : World} {B : Nat} {T : TypeId} {x y : Value} (hz : w.heap[B]? = some (.cells #[x, y] T)) : w.frozen? ⟨B, 0, none⟩ = false ∧ w.frozen? ⟨B, 1, none⟩ = false := by
  unfold World.frozen?
  rw [hz]
  exact ⟨by simp, by simp⟩
theorem laid_cells {w : World} {B : Nat} {x y u u' : Value} (h0 : w.cell? ⟨B, 0, none⟩ = some x) (h1 : w.cell? ⟨B, 1, none⟩ = some y) : ((w.setCell ⟨B, 0, none⟩ u).setCell ⟨B, 1, none⟩ u').cell? ⟨B, 0, none⟩ = some u ∧ ((w.setCell ⟨B, 0, none⟩ u).setCell ⟨B, 1, none⟩ u').cell? ⟨B, 1, none⟩ = some u' := by
  have e1 : (w.setCell ⟨B, 0, none⟩ u).cell? ⟨B, 0, none⟩ = some u := World.cell?_setCell_same _ _ _ h0
  have e2 : (w.setCell ⟨B, 0, none⟩ u).cell? ⟨B, 1, none⟩ = some y := by rw [World.cell?_setCell_other _ _ _ _ (by intro e; cases e)]; exact h1
  refine ⟨?_, World.cell?_setCell_same _ _ _ e2⟩
  rw [World.cell?_setCell_other _ _ _ _ (by intro e; cases e)]; exact e1
theorem laidR_set {w0 ws : World} {q : QueryD} {B : Nat} {a : Option Addr} {n c : Nat} {a' : Option Addr} {n' c' : Nat} {T : TypeId} (hr : RdQuery ws (.agg #[.slice a n c, .slice a' n' c']) q) (hz : ws.heap[B]? = some (.cells #[.slice none 0 0, .slice none 0 0] T)) (hB : w0.heap.size ≤ B) (hb : Below w0.heap.size w0 ws) :
    LaidR w0 q ((ws.setCell ⟨B, 0, none⟩ (.slice a n c)).setCell ⟨B, 1, none⟩ (.slice a' n' c')) B a n c a' n' c' := by
  have hk : OnlyAt [B] ws ((ws.setCell ⟨B, 0, none⟩ (.slice a n c)).setCell ⟨B, 1, none⟩ (.slice a' n' c')) := (OnlyAt.setCell ws _ _ _).same (OnlyAt.setCell _ _ _ _)
  obtain ⟨z0, z1⟩ := zb_cell hz
  obtain ⟨e0, e1⟩ := laid_cells (u := .slice a n c) (u' := .slice a' n' c') z0 z1
  exact ⟨e0, e1, hr.offS hk (SlB.newAt (w := ws) hz), hB, Nat.lt_of_lt_of_le (zb_lt hz) hk.size, OnlyAt.below hb hk (fun b hb' => by simp at hb'; omega)⟩
theorem laidR_new {w0 ws : World} {q : QueryD} {a : Option Addr} {n c : Nat} {a' : Option Addr} {n' c' : Nat} {T : TypeId} (hr : RdQuery ws (.agg #[.slice a n c, .slice a' n' c']) q) (hb : Below w0.heap.size w0 ws) :
    LaidR w0 q (ws.alloc (.cells #[.slice a n c, .slice a' n' c'] T)) ws.heap.size a n c a' n' c' :=
  ⟨newBox ws _ T 0 _ rfl, newBox ws _ T 1 _ rfl, hr.below (below_alloc _ _), hb.size, by simp, bnext hb (below_alloc _ _)⟩
theorem laidO_set {w0 X ws : World} {q : QueryD} {B : Nat} {a : Option Addr} {n c : Nat} {a' : Option Addr} {n' c' : Nat} {T : TypeId} {bs : List Nat} (hr : ROQuery ws (.agg #[.slice a n c, .slice a' n' c']) q bs) (hfr : Fresh X ws bs) (hBX : B < X.heap.size) (h0X : w0.heap.size ≤ X.heap.size) (hz : ws.heap[B]? = some (.cells #[.slice none 0 0, .slice none 0 0] T)) (hB : w0.heap.size ≤ B) (hb : Below w0.heap.size w0 ws) :
    LaidO w0 q ((ws.setCell ⟨B, 0, none⟩ (.slice a n c)).setCell ⟨B, 1, none⟩ (.slice a' n' c')) B a n c a' n' c' bs := by
  have hk : OnlyAt [B] ws ((ws.setCell ⟨B, 0, none⟩ (.slice a n c)).setCell ⟨B, 1, none⟩ (.slice a' n' c')) := (OnlyAt.setCell ws _ _ _).same (OnlyAt.setCell _ _ _ _)
  obtain ⟨z0, z1⟩ := zb_cell hz
  obtain ⟨e0, e1⟩ := laid_cells (u := .slice a n c) (u' := .slice a' n' c') z0 z1
  have hn : ∀ b ∈ bs, b ≠ B := fun b hb' e => by have := (hfr.2 b hb').1; omega
  exact ⟨e0, e1, hr.onlyAt hk (fun b hb' hm => hn b hb' (by simpa using hm)), ⟨hfr.1, fun b hb' => ⟨Nat.le_trans h0X (hfr.2 b hb').1, Nat.lt_of_lt_of_le (hfr.2 b hb').2 hk.size⟩⟩, fun hm => hn B hm rfl, hB, Nat.lt_of_lt_of_le (zb_lt hz) hk.size, OnlyAt.below hb hk (fun b hb' => by simp at hb'; omega)⟩
theorem laidO_new {w0 X ws : World} {q : QueryD} {a : Option Addr} {n c : Nat} {a' : Option Addr} {n' c' : Nat} {T : TypeId} {bs : List Nat} (hr : ROQuery ws (.agg #[.slice a n c, .slice a' n' c']) q bs) (hfr : Fresh X ws bs) (h0X : w0.heap.size ≤ X.heap.size) (hb : Below w0.heap.size w0 ws) :
    LaidO w0 q (ws.alloc (.cells #[.slice a n c, .slice a' n' c'] T)) ws.heap.size a n c a' n' c' bs :=
  ⟨newBox ws _ T 0 _ rfl, newBox ws _ T 1 _ rfl, hr.below (below_alloc _ _), ⟨hfr.1, fun b hb' => ⟨Nat.le_trans h0X (hfr.2 b hb').1, by have := (hfr.2 b hb').2; simp; omega⟩⟩, fun hm => by have := (hfr.2 _ hm).2; omega, hb.size, by simp, bnext hb (below_alloc _ _)⟩
end Go.Proofs.Ytgnlglfppeepeaa
