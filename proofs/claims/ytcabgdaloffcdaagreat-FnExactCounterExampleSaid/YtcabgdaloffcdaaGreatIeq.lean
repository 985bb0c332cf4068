/- Contracts of chapter 3's program: EqualAtoms, over arrays of three numbers. -/
import Derived.Test.YtcabgdaloffcdaaGreatSatom
import Derived.Laws.CopyOwn
import Derived.Deep.RegionLaw
namespace Go.Proofs.YtcabgdaloffcdaaGreat
open Go Go.Sort Go.RowKit
set_option linter.unusedVariables false

def tri (l : List Int) : Value := .agg #[.int .i64 (l.getD 0 0), .int .i64 (l.getD 1 0), .int .i64 (l.getD 2 0)]
theorem tri_splice (l : List Int) : splice [Value.int .i64 0, .int .i64 0, .int .i64 0] 0 ((l.take 3).map (Value.int .i64)) = [.int .i64 (l.getD 0 0), .int .i64 (l.getD 1 0), .int .i64 (l.getD 2 0)] := by
  match l with
  | [] => rfl
  | [x] => rfl
  | [x, y] => rfl
  | x :: y :: z :: t => simp [splice]
theorem info_int3 : (Tryz.prog.info? 3).map (·.size) = some 1 := by kernel_rfl

theorem setRow_new (w : World) (t : TypeId) (cs cs' : Array Value) : (w.alloc (.cells cs t)).setRow w.heap.size cs' = w.alloc (.cells cs' t) := by
  unfold World.setRow World.alloc
  simp only [World.mk.injEq, and_true]
  apply Array.ext_getElem?
  intro i
  rw [Array.getElem?_modify]
  by_cases h : w.heap.size = i
  · subst h; simp
  · rw [if_neg h]; simp [Array.getElem?_push, Ne.symm h]
/-- 'copy(first[:], args)' behind 'var first [3]int'. -/
theorem run_copy3 (w : World) (a : Option Addr) (n cap : Nat) (l : List Int) (hl : l.length = n) (hc : 0 < n → ∃ b off, a = some ⟨b, off, none⟩ ∧ ∀ j, j < n → (w.alloc (.cells #[.int .i64 0, .int .i64 0, .int .i64 0] 78)).cell? ⟨b, off + j, none⟩ = some (.int .i64 (l.getD j 0))) :
    (Builtin.copy_ #[24, 24] 3 #[.slice (some ⟨w.heap.size, 0, none⟩) 3 3, .slice a n cap]).run Tryz.prog (w.alloc (.cells #[.int .i64 0, .int .i64 0, .int .i64 0] 78)) =
      .ok (goInt (Nat.min n 3)) (w.alloc (.cells #[.int .i64 (l.getD 0 0), .int .i64 (l.getD 1 0), .int .i64 (l.getD 2 0)] 78)) := by
  have hT := tri_splice l
  by_cases h0 : n = 0
  · have : l = [] := List.eq_nil_of_length_eq_zero (by omega)
    subst h0; subst this
    rw [run_copy_none _ 24 24 3 3 _ _ 3 3 0 cap Tryz.underlying24 info_int3 rfl]
    rfl
  · obtain ⟨b, off, rfl, hcc⟩ := hc (by omega)
    have hcl : ((l.take 3).map (Value.int .i64)).length = Nat.min n 3 := by simp [hl, Nat.min_comm]
    have h3 : Nat.min n 3 ≤ 3 := Nat.min_le_right _ _
    have h4 : Nat.min n 3 ≤ n := Nat.min_le_left _ _
    have e := run_copy_row (P := Tryz.prog) (w.alloc (.cells #[.int .i64 0, .int .i64 0, .int .i64 0] 78)) 24 24 3 3 w.heap.size 0 3 3 ⟨b, off, none⟩ n cap #[.int .i64 0, .int .i64 0, .int .i64 0] 78 ((l.take 3).map (Value.int .i64)) Tryz.underlying24 info_int3 (by unfold World.alloc; exact Array.getElem?_push_size) hcl
      (fun j v hj => by
        rw [List.getElem?_map, Option.map_eq_some_iff] at hj
        obtain ⟨x, hx, rfl⟩ := hj
        rw [List.getElem?_take] at hx
        split at hx
        · have hjn : j < n := by rw [← hl]; exact (List.getElem?_eq_some_iff.1 hx).1
          have := hcc j hjn
          rw [show l.getD j 0 = x by simp [List.getD, hx]] at this
          have ea : (⟨b, off, none⟩ : Addr).add j = ⟨b, off + j, none⟩ := by unfold Addr.add; split <;> simp_all
          rw [ea]; exact this
        · cases hx)
      (by rw [hcl]; simpa using h3) (fun v hv => by obtain ⟨x, _, rfl⟩ := List.mem_map.1 hv; rfl)
    rw [e, hcl, setRow_new]
    have e2 : (#[Value.int .i64 0, .int .i64 0, .int .i64 0].toList.take 0 ++ (l.take 3).map (Value.int .i64) ++ #[Value.int .i64 0, .int .i64 0, .int .i64 0].toList.drop (0 + ((l.take 3).map (Value.int .i64)).length)).toArray = #[.int .i64 (l.getD 0 0), .int .i64 (l.getD 1 0), .int .i64 (l.getD 2 0)] := by
      have : [Value.int .i64 (l.getD 0 0), .int .i64 (l.getD 1 0), .int .i64 (l.getD 2 0)] = #[Value.int .i64 (l.getD 0 0), .int .i64 (l.getD 1 0), .int .i64 (l.getD 2 0)].toList := rfl
      rw [← Array.toList_inj, ← this, ← hT]
      simp [splice]
    rw [hcl] at e2
    rw [e2]

set_option maxHeartbeats 1000000 in
theorem iFirst_any (w : World) (v : Value) (l : List Int) (h : Ints w v l) :
    Calls Tryz.prog 55 #[v] w fun e w' => e = .returned (tri l) ∧ Below w.heap.size w w' := by
  obtain ⟨a, n, cap, rfl, hl, hn, hm, hcell⟩ := h.cases
  unfold maxLen at hm
  have hrun := run_copy3 (w.alloc (.cells #[.int .i64 0, .int .i64 0, .int .i64 0] 78)) a n cap l hl (fun h => by
    obtain ⟨b, off, rfl, hbw, hc⟩ := hcell h
    exact ⟨b, off, rfl, fun j hj => cellk ((below_alloc w _).trans ((below_alloc _ _).mono (by simp))) (hc j hj)⟩)
  rw [show (w.alloc (.cells #[.int .i64 0, .int .i64 0, .int .i64 0] 78)).heap.size = w.heap.size + 1 by simp] at hrun
  have HB := Lib.hid (fun o o' => (below_alloc w o).trans ((below_alloc _ o').mono (by simp) : Below w.heap.size _ _))
  unfold tri
  generalize l.getD 0 0 = x at *
  generalize l.getD 1 0 = y at *
  generalize l.getD 2 0 = z at *
  generalize goInt (Nat.min n 3) = q at *
  clear h hcell hl
  go_enter Tryz.func55, Tryz.ntmps55
  go_wp2_with fail
  exact bodyPost_ret (v := .agg #[.int .i64 x, .int .i64 y, .int .i64 z]) (by simp [results, Tryz.results55, go_sem]) rfl ⟨rfl, HB.out _ _⟩

/-- packedAtom of an atom. -/
def packed (r : Int) (n : Nat) (l : List Int) : Value := .agg #[.int .i64 r, .int .i64 n, .int .i64 (l.getD 0 0), .int .i64 (l.getD 1 0), .int .i64 (l.getD 2 0)]
set_option maxHeartbeats 2000000 in
theorem iPack_any (w : World) (r : Int) (v : Value) (l : List Int) (h : Ints w v l) :
    Calls Tryz.prog 109 #[.agg #[.int .i64 r, v]] w fun e w' => e = .returned (packed r l.length l) ∧ Below w.heap.size w w' := by
  obtain ⟨a, n, cap, rfl, hl, hn, hm, hcell⟩ := h.cases
  unfold maxLen at hm
  have hF := Lib.hid (fun w h => iFirst_any w (.slice a n cap) l h)
  have HT := Lib.hid h
  have HB0 := Lib.hid (fun o o' => (below_alloc w o).trans ((below_alloc _ o').mono (by simp) : Below w.heap.size _ _))
  unfold packed
  rw [hl]
  unfold tri at hF
  generalize l.getD 0 0 = x at *
  generalize l.getD 1 0 = y at *
  generalize l.getD 2 0 = z at *
  clear h hcell hl
  go_enter Tryz.func109, Tryz.ntmps109
  go_wp2_with fail
  go_region_law (first
    | (go_simp; go_at_call 55; refine (hF.out _ (HT.out.below (HB0.out _ _).drew)).mono ?_; rintro e w1 ⟨rfl, hb⟩; have b0 := cellk hb (b := w.heap.size) (o := 0) (v := .int .i64 r) (by simp); have b1 := cellk hb (b := w.heap.size) (o := 1) (v := .slice a n cap) (by simp); have z0 := cellk hb (b := w.heap.size + 1) (o := 0) (v := .int .i64 0) (by simp); have z1 := cellk hb (b := w.heap.size + 1) (o := 1) (v := .int .i64 0) (by simp); have z2 := cellk hb (b := w.heap.size + 1) (o := 2) (v := .int .i64 0) (by simp); have z3 := cellk hb (b := w.heap.size + 1) (o := 3) (v := .int .i64 0) (by simp); have z4 := cellk hb (b := w.heap.size + 1) (o := 4) (v := .int .i64 0) (by simp); have f0 : w1.frozen? ⟨w.heap.size + 1, 0, none⟩ = false := frok hb (v := .int .i64 0) (by simp) (by simp); have f1 : w1.frozen? ⟨w.heap.size + 1, 1, none⟩ = false := frok hb (v := .int .i64 0) (by simp) (by simp); have f2 : w1.frozen? ⟨w.heap.size + 1, 2, none⟩ = false := frok hb (v := .int .i64 0) (by simp) (by simp); have f3 : w1.frozen? ⟨w.heap.size + 1, 3, none⟩ = false := frok hb (v := .int .i64 0) (by simp) (by simp); have f4 : w1.frozen? ⟨w.heap.size + 1, 4, none⟩ = false := frok hb (v := .int .i64 0) (by simp) (by simp); have HB1 := Lib.hid (bnext (HB0.out _ _).drew hb); have hlt := World.block_lt_of_cell? w1 _ z0; clear hb))
  all_goals (go_wp2_with fail)
  all_goals exact bodyPost_ret (v := .agg #[.int .i64 r, .int .i64 n, .int .i64 x, .int .i64 y, .int .i64 z]) (by simp [results, Tryz.results109, go_sem, z0, z1, z2, z3, z4]) rfl ⟨rfl, ((((HB1.out.setCell (by simp) _).setCell (by simp) _).setCell (by simp) _).setCell (by simp) _).setCell (by simp) _⟩
end Go.Proofs.YtcabgdaloffcdaaGreat
