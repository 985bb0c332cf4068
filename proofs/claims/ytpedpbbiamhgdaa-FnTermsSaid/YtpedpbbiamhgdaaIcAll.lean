/- Merged of Ieq, Icmp, Ieq2, Iqeq. -/
import Derived.Test.YtpedpbbiamhgdaaSatom
import Derived.Laws.CopyOwn
import Derived.Deep.RegionLaw
import Derived.ChangeKeysEq
import Derived.Test.YtpedpbbiamhgdaaSquery
/-! Ieq -/
namespace Go.Proofs.Ytpedpbbiamhgdaa
open Go Go.Sort Go.RowKit
set_option linter.unusedVariables false

def tri (l : List Int) : Value := .agg #[.int .i64 (l.getD 0 0), .int .i64 (l.getD 1 0), .int .i64 (l.getD 2 0)]
theorem tri_splice (l : List Int) : splice [Value.int .i64 0, .int .i64 0, .int .i64 0] 0 ((l.take 3).map (Value.int .i64)) = [.int .i64 (l.getD 0 0), .int .i64 (l.getD 1 0), .int .i64 (l.getD 2 0)] := by
  match l with
  | [] => rfl
  | [x] => rfl
  | [x, y] => rfl
  | x :: y :: z :: t => simp [splice]
theorem info_int3 : (Try.prog.info? 3).map (·.size) = some 1 := by kernel_rfl

theorem setRow_new (w : World) (t : TypeId) (cs cs' : Array Value) : (w.alloc (.cells cs t)).setRow w.heap.size cs' = w.alloc (.cells cs' t) := by
  unfold World.setRow World.alloc
  simp only [World.mk.injEq, and_true]
  apply Array.ext_getElem?
  intro i
  rw [Array.getElem?_modify]
  by_cases h : w.heap.size = i
  · subst h; simp
  · rw [if_neg h]; simp [Array.getElem?_push, Ne.symm h]
/-- packedAtom of an atom. -/
def packed (r : Int) (n : Nat) (l : List Int) : Value := .agg #[.int .i64 r, .int .i64 n, .int .i64 (l.getD 0 0), .int .i64 (l.getD 1 0), .int .i64 (l.getD 2 0)]
end Go.Proofs.Ytpedpbbiamhgdaa

/-! Icmp -/
namespace Go.Proofs.Ytpedpbbiamhgdaa
open Go Go.Sort Go.RowKit
set_option linter.unusedVariables false

theorem plain_int : Try.prog.plainKey 3 = true := by kernel_rfl
theorem cells_int : Try.prog.cellsOf 3 = 1 := by kernel_rfl
theorem info_int_some : ∃ i, Try.prog.info? 3 = some i := Option.isSome_iff_exists.1 (by kernel_rfl)
end Go.Proofs.Ytpedpbbiamhgdaa

/-! Ieq2 -/
namespace Go.Proofs.Ytpedpbbiamhgdaa
open Go Go.Sort Go.RowKit
set_option linter.unusedVariables false

theorem Ints.dropAt {w : World} {b off n cap : Nat} {l : List Int} (h : Ints w (.slice (some ⟨b, off, none⟩) n cap) l) (i : Nat) (hi : i ≤ n) : Ints w (.slice (some ⟨b, off + i, none⟩) (n - i) (cap - i)) (l.drop i) := by
  refine ⟨fun x hx => h.1 x (List.mem_of_mem_drop hx), ?_⟩
  rcases h.2 with ⟨a, c, e, hc, rfl⟩ | ⟨b', off', len, c, e, hl, h1, h2, hlt, hc⟩
  · cases e
    exact .inl ⟨_, _, by rw [Nat.zero_sub], by omega, by simp⟩
  · cases e
    refine .inr ⟨b, off + i, n - i, cap - i, rfl, by simp [hl], by omega, by omega, hlt, fun j hj => ?_⟩
    rw [Nat.add_assoc, hc (i + j) (by omega)]
    simp [List.getD]
theorem getD_drop (l : List Int) (i j : Nat) : (l.drop i).getD j 0 = l.getD (i + j) 0 := by simp [List.getD]

end Go.Proofs.Ytpedpbbiamhgdaa

/-! Iqeq -/
namespace Go.Proofs.Ytpedpbbiamhgdaa
open Go Go.Sort Go.RowKit
set_option linter.unusedVariables false

theorem size_arg {l : List AtomD} {x : AtomD} (hx : x ∈ l) (h : sizeAtomS l ≤ 1048576) : x.2.length ≤ 1048576 := by
  obtain ⟨i, hi⟩ := List.mem_iff_getElem?.1 hx
  have h5 := sumArgs_take hi
  have h6 := sumArgs_le l (i + 1)
  unfold sizeAtomS at h
  omega

end Go.Proofs.Ytpedpbbiamhgdaa
