/- Contracts of chapter 9's spec: l4Copy, WithoutAtom. -/
import Derived.Test.YtpedpbbiamhgdaaM9
import Derived.Test.YtpedpbbiamhgdaaSrename3
import Derived.Test.YtpedpbbiamhgdaaAppInts
import Derived.Test.YtpedpbbiamhgdaaBox3
import Derived.Deep.RegionLaw
namespace Go.Proofs.Ytpedpbbiamhgdaa
open Go Go.Sort Go.RowKit
set_option linter.unusedVariables false

/-- A block of which every cell is a slice: no number and no atom lies in it. -/
def SlB (w : World) (B : Nat) : Prop := ∀ o x, w.cell? ⟨B, o, none⟩ = some x → ∃ a n c, x = .slice a n c
theorem SlB.below {w w' : World} {B : Nat} (h : SlB w B) (hlt : B < w.heap.size) (hb : Below w.heap.size w w') : SlB w' B := fun o x hx => h o x (by rw [← hb.cell (p := ⟨B, o, none⟩) hlt]; exact hx)
theorem SlB.new (w : World) (a a' : Option Addr) (n c n' c' : Nat) (T : TypeId) : SlB (w.alloc (.cells #[.slice a n c, .slice a' n' c'] T)) w.heap.size := by
  intro o x hx
  unfold World.cell? at hx
  rw [heap_alloc_new w] at hx
  match o, hx with
  | 0, hx => simp at hx; exact ⟨_, _, _, hx.symm⟩
  | 1, hx => simp at hx; exact ⟨_, _, _, hx.symm⟩
  | k + 2, hx => simp at hx
theorem Ints.offS {w w' : World} {v : Value} {l : List Int} {B : Nat} (h : Ints w v l) (ko : OnlyAt [B] w w') (hB : SlB w B) : Ints w' v l := by
  refine h.onlyAt ko fun b off n c hv hn hb => ?_
  obtain ⟨a, n', cap, e, hl, hn', hm, hc⟩ := h.cases
  rw [hv] at e; cases e
  obtain ⟨b2, off2, e2, hlt, hc⟩ := hc hn
  cases e2
  have hbB : b = B := by simpa using hb
  subst hbB
  obtain ⟨_, _, _, e3⟩ := hB _ _ (hc 0 hn)
  cases e3
theorem RdQuery.offS {w w' : World} {v : Value} {d : QueryD} {B : Nat} (h : RdQuery w v d) (ko : OnlyAt [B] w w') (hB : SlB w B) : RdQuery w' v d := by
  obtain ⟨a, n, c, a', n', c', rfl, hi, ha⟩ := h
  refine ⟨a, n, c, a', n', c', rfl, hi.offS ko hB, ?_⟩
  obtain ⟨a2, n2, cap, e, hl, hn', hm, hc⟩ := ha
  cases e
  refine ⟨_, _, _, rfl, hl, hn', hm, fun h0 => ?_⟩
  obtain ⟨b, off, rfl, hlt, hc⟩ := hc h0
  refine ⟨b, off, rfl, Nat.lt_of_lt_of_le hlt ko.size, fun j hj => ?_⟩
  have hne : b ∉ [B] := by
    intro hb
    have hbB : b = B := by simpa using hb
    subst hbB
    obtain ⟨cs, hcs, hcl, _, _, _, rfl, _⟩ := hc 0 (by omega)
    obtain ⟨_, _, _, e3⟩ := hB _ _ ((hcl 0 (by omega)).trans (by rfl))
    cases e3
  obtain ⟨cs, h1, h2, ea, en, ec, rfl, hi3, hint⟩ := hc j hj
  exact ⟨_, h1, fun i hi => by rw [← h2 i hi]; exact World.cell?_of_block (ko.block b hlt hne), ea, en, ec, rfl, hi3, hint.offS ko hB⟩
theorem Ints.lit0 (w : World) (a : Option Addr) : Ints w (.slice a 0 0) [] := ⟨fun x h => by simp at h, .inl ⟨a, 0, rfl, Nat.zero_le _, rfl⟩⟩
theorem SlB.newAt {w W : World} {B : Nat} {a a' : Option Addr} {n c n' c' : Nat} {T : TypeId} (h : W.heap[B]? = some (.cells #[.slice a n c, .slice a' n' c'] T)) : SlB W B := by
  intro o x hx
  unfold World.cell? at hx
  rw [h] at hx
  match o, hx with
  | 0, hx => simp at hx; exact ⟨_, _, _, hx.symm⟩
  | 1, hx => simp at hx; exact ⟨_, _, _, hx.symm⟩
  | k + 2, hx => simp at hx

theorem newFrz (w : World) (cs : Array Value) (T : TypeId) (i : Nat) : (w.alloc (.cells cs T)).frozen? ⟨w.heap.size, i, none⟩ = false := by simp
theorem frz2 (w : World) (o1 : Obj) (cs : Array Value) (T : TypeId) (o3 : Obj) (i : Nat) (v : Value) (h : cs[i]? = some v) : (((w.alloc o1).alloc (.cells cs T)).alloc o3).frozen? ⟨w.heap.size + 1, i, none⟩ = false := by
  have e : (w.alloc o1).heap.size = w.heap.size + 1 := by simp
  have h1 := newBox (w.alloc o1) cs T i v h
  have h2 := newFrz (w.alloc o1) cs T i
  rw [e] at h1 h2
  exact frok (below_alloc _ _) h1 h2
theorem frz3 (w : World) (o1 o2 : Obj) (cs : Array Value) (T : TypeId) (i : Nat) : (((w.alloc o1).alloc o2).alloc (.cells cs T)).frozen? ⟨w.heap.size + 1 + 1, i, none⟩ = false := by
  have e : ((w.alloc o1).alloc o2).heap.size = w.heap.size + 1 + 1 := by simp
  have h2 := newFrz ((w.alloc o1).alloc o2) cs T i
  rw [e] at h2
  exact h2
/-- A call that answers a query that reads as d. -/
def GaveQ (w : World) (d : QueryD) (e : Ending) (w' : World) : Prop := ∃ a n c a' n' c', e = .returned (.agg #[.slice a n c, .slice a' n' c']) ∧ RdQuery w' (.agg #[.slice a n c, .slice a' n' c']) d ∧ Below w.heap.size w w'

end Go.Proofs.Ytpedpbbiamhgdaa
