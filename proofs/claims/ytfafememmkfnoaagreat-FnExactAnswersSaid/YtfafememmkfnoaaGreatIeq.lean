/- Contracts of chapter 3's program: EqualAtoms, over arrays of three numbers. -/
import Derived.Test.YtfafememmkfnoaaGreatSatom
import Derived.Laws.CopyOwn
import Derived.Deep.RegionLaw
namespace Go.Proofs.YtfafememmkfnoaaGreat
open Go Go.Sort Go.RowKit
set_option linter.unusedVariables false

def tri (l : List Int) : Value := .agg #[.int .i64 (l.getD 0 0), .int .i64 (l.getD 1 0), .int .i64 (l.getD 2 0)]
theorem tri_splice (l : List Int) : splice [Value.int .i64 0, .int .i64 0, .int .i64 0] 0 ((l.take 3).map (Value.int .i64)) = [.int .i64 (l.getD 0 0), .int .i64 (l.getD 1 0), .int .i64 (l.getD 2 0)] := by
  match l with
  | [] => rfl
  | [x] => rfl
  | [x, y] => rfl
  | x :: y :: z :: t => simp [splice]
theorem info_int3 : (Tryz.prog.info? 3).map (·.size) = some 1 := by kernel_rfl

theorem setRow_new (w : World) (t : TypeId) (cs cs' : Array Value) : (w.alloc (.cells cs t)).setRow w.heap.size cs' = w.alloc (.cells cs' t) := by
  unfold World.setRow World.alloc
  simp only [World.mk.injEq, and_true]
  apply Array.ext_getElem?
  intro i
  rw [Array.getElem?_modify]
  by_cases h : w.heap.size = i
  · subst h; simp
  · rw [if_neg h]; simp [Array.getElem?_push, Ne.symm h]
/-- 'copy(first[:], args)' behind 'var first [3]int'. -/
theorem run_copy3 (w : World) (a : Option Addr) (n cap : Nat) (l : List Int) (hl : l.length = n) (hc : 0 < n → ∃ b off, a = some ⟨b, off, none⟩ ∧ ∀ j, j < n → (w.alloc (.cells #[.int .i64 0, .int .i64 0, .int .i64 0] 78)).cell? ⟨b, off + j, none⟩ = some (.int .i64 (l.getD j 0))) :
    (Builtin.copy_ #[22, 22] 3 #[.slice (some ⟨w.heap.size, 0, none⟩) 3 3, .slice a n cap]).run Tryz.prog (w.alloc (.cells #[.int .i64 0, .int .i64 0, .int .i64 0] 78)) =
      .ok (goInt (Nat.min n 3)) (w.alloc (.cells #[.int .i64 (l.getD 0 0), .int .i64 (l.getD 1 0), .int .i64 (l.getD 2 0)] 78)) := by
  have hT := tri_splice l
  by_cases h0 : n = 0
  · have : l = [] := List.eq_nil_of_length_eq_zero (by omega)
    subst h0; subst this
    rw [run_copy_none _ 22 22 3 3 _ _ 3 3 0 cap Tryz.underlying22 info_int3 rfl]
    rfl
  · obtain ⟨b, off, rfl, hcc⟩ := hc (by omega)
    have hcl : ((l.take 3).map (Value.int .i64)).length = Nat.min n 3 := by simp [hl, Nat.min_comm]
    have h3 : Nat.min n 3 ≤ 3 := Nat.min_le_right _ _
    have h4 : Nat.min n 3 ≤ n := Nat.min_le_left _ _
    have e := run_copy_row (P := Tryz.prog) (w.alloc (.cells #[.int .i64 0, .int .i64 0, .int .i64 0] 78)) 22 22 3 3 w.heap.size 0 3 3 ⟨b, off, none⟩ n cap #[.int .i64 0, .int .i64 0, .int .i64 0] 78 ((l.take 3).map (Value.int .i64)) Tryz.underlying22 info_int3 (by unfold World.alloc; exact Array.getElem?_push_size) hcl
      (fun j v hj => by
        rw [List.getElem?_map, Option.map_eq_some_iff] at hj
        obtain ⟨x, hx, rfl⟩ := hj
        rw [List.getElem?_take] at hx
        split at hx
        · have hjn : j < n := by rw [← hl]; exact (List.getElem?_eq_some_iff.1 hx).1
          have := hcc j hjn
          rw [show l.getD j 0 = x by simp [List.getD, hx]] at this
          have ea : (⟨b, off, none⟩ : Addr).add j = ⟨b, off + j, none⟩ := by unfold Addr.add; split <;> simp_all
          rw [ea]; exact this
        · cases hx)
      (by rw [hcl]; simpa using h3) (fun v hv => by obtain ⟨x, _, rfl⟩ := List.mem_map.1 hv; rfl)
    rw [e, hcl, setRow_new]
    have e2 : (#[Value.int .i64 0, .int .i64 0, .int .i64 0].toList.take 0 ++ (l.take 3).map (Value.int .i64) ++ #[Value.int .i64 0, .int .i64 0, .int .i64 0].toList.drop (0 + ((l.take 3).map (Value.int .i64)).length)).toArray = #[.int .i64 (l.getD 0 0), .int .i64 (l.getD 1 0), .int .i64 (l.getD 2 0)] := by
      have : [Value.int .i64 (l.getD 0 0), .int .i64 (l.getD 1 0), .int .i64 (l.getD 2 0)] = #[Value.int .i64 (l.getD 0 0), .int .i64 (l.getD 1 0), .int .i64 (l.getD 2 0)].toList := rfl
      rw [← Array.toList_inj, ← this, ← hT]
      simp [splice]
    rw [hcl] at e2
    rw [e2]

/-- packedAtom of an atom. -/
def packed (r : Int) (n : Nat) (l : List Int) : Value := .agg #[.int .i64 r, .int .i64 n, .int .i64 (l.getD 0 0), .int .i64 (l.getD 1 0), .int .i64 (l.getD 2 0)]
end Go.Proofs.YtfafememmkfnoaaGreat
