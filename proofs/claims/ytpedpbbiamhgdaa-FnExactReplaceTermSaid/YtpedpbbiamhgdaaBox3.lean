/- Own words over any program: the cells of three boxes that a call lays one after the other. -/
import Derived.Test.YtpedpbbiamhgdaaReads
namespace Go.Proofs.Ytpedpbbiamhgdaa
open Go.RowKit
set_option linter.unusedVariables false
theorem newBox (w : World) (cs : Array Value) (T : TypeId) (i : Nat) (v : Value) (h : cs[i]? = some v) : (w.alloc (.cells cs T)).cell? ⟨w.heap.size, i, none⟩ = some v := by
  unfold World.cell?; rw [heap_alloc_new w (.cells cs T)]; exact h
theorem box1 (w : World) (cs : Array Value) (T : TypeId) (o2 o3 : Obj) (i : Nat) (v : Value) (h : cs[i]? = some v) : (((w.alloc (.cells cs T)).alloc o2).alloc o3).cell? ⟨w.heap.size, i, none⟩ = some v :=
  cellk (below_alloc _ _) (cellk (below_alloc _ _) (newBox w cs T i v h))
theorem box2 (w : World) (o1 : Obj) (cs : Array Value) (T : TypeId) (o3 : Obj) (i : Nat) (v : Value) (h : cs[i]? = some v) : (((w.alloc o1).alloc (.cells cs T)).alloc o3).cell? ⟨w.heap.size + 1, i, none⟩ = some v := by
  have := newBox (w.alloc o1) cs T i v h
  exact cellk (below_alloc _ _) (by simpa using this)
theorem box3 (w : World) (o1 o2 : Obj) (cs : Array Value) (T : TypeId) (i : Nat) (v : Value) (h : cs[i]? = some v) : (((w.alloc o1).alloc o2).alloc (.cells cs T)).cell? ⟨w.heap.size + 1 + 1, i, none⟩ = some v := by
  have := newBox ((w.alloc o1).alloc o2) cs T i v h
  simpa using this
end Go.Proofs.Ytpedpbbiamhgdaa
