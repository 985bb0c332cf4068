/- Merged of Ieq, Icmp, Ieq2, Iqeq. -/
import Derived.Test.YtfojllkkbdpfkaaGreatSatom
import Derived.Laws.CopyOwn
import Derived.Deep.RegionLaw
import Derived.ChangeKeysEq
import Derived.Test.YtfojllkkbdpfkaaGreatSquery
/-! Ieq -/
namespace Go.Proofs.YtfojllkkbdpfkaaGreat
open Go Go.Sort Go.RowKit
set_option linter.unusedVariables false

def tri (l : List Int) : Value := .agg #[.int .i64 (l.getD 0 0), .int .i64 (l.getD 1 0), .int .i64 (l.getD 2 0)]
theorem tri_splice (l : List Int) : splice [Value.int .i64 0, .int .i64 0, .int .i64 0] 0 ((l.take 3).map (Value.int .i64)) = [.int .i64 (l.getD 0 0), .int .i64 (l.getD 1 0), .int .i64 (l.getD 2 0)] := by
  match l with
  | [] => rfl
  | [x] => rfl
  | [x, y] => rfl
  | x :: y :: z :: t => simp [splice]
theorem info_int3 : (Tryz.prog.info? 3).map (·.size) = some 1 := by kernel_rfl

theorem setRow_new (w : World) (t : TypeId) (cs cs' : Array Value) : (w.alloc (.cells cs t)).setRow w.heap.size cs' = w.alloc (.cells cs' t) := by
  unfold World.setRow World.alloc
  simp only [World.mk.injEq, and_true]
  apply Array.ext_getElem?
  intro i
  rw [Array.getElem?_modify]
  by_cases h : w.heap.size = i
  · subst h; simp
  · rw [if_neg h]; simp [Array.getElem?_push, Ne.symm h]
/-- 'copy(first[:], args)' behind 'var first [3]int'. -/
theorem run_copy3 (w : World) (a : Option Addr) (n cap : Nat) (l : List Int) (hl : l.length = n) (hc : 0 < n → ∃ b off, a = some ⟨b, off, none⟩ ∧ ∀ j, j < n → (w.alloc (.cells #[.int .i64 0, .int .i64 0, .int .i64 0] 100)).cell? ⟨b, off + j, none⟩ = some (.int .i64 (l.getD j 0))) :
    (Builtin.copy_ #[22, 22] 3 #[.slice (some ⟨w.heap.size, 0, none⟩) 3 3, .slice a n cap]).run Tryz.prog (w.alloc (.cells #[.int .i64 0, .int .i64 0, .int .i64 0] 100)) =
      .ok (goInt (Nat.min n 3)) (w.alloc (.cells #[.int .i64 (l.getD 0 0), .int .i64 (l.getD 1 0), .int .i64 (l.getD 2 0)] 100)) := by
  have hT := tri_splice l
  by_cases h0 : n = 0
  · have : l = [] := List.eq_nil_of_length_eq_zero (by omega)
    subst h0; subst this
    rw [run_copy_none _ 22 22 3 3 _ _ 3 3 0 cap Tryz.underlying22 info_int3 rfl]
    rfl
  · obtain ⟨b, off, rfl, hcc⟩ := hc (by omega)
    have hcl : ((l.take 3).map (Value.int .i64)).length = Nat.min n 3 := by simp [hl, Nat.min_comm]
    have h3 : Nat.min n 3 ≤ 3 := Nat.min_le_right _ _
    have h4 : Nat.min n 3 ≤ n := Nat.min_le_left _ _
    have e := run_copy_row (P := Tryz.prog) (w.alloc (.cells #[.int .i64 0, .int .i64 0, .int .i64 0] 100)) 22 22 3 3 w.heap.size 0 3 3 ⟨b, off, none⟩ n cap #[.int .i64 0, .int .i64 0, .int .i64 0] 100 ((l.take 3).map (Value.int .i64)) Tryz.underlying22 info_int3 (by unfold World.alloc; exact Array.getElem?_push_size) hcl
      (fun j v hj => by
        rw [List.getElem?_map, Option.map_eq_some_iff] at hj
        obtain ⟨x, hx, rfl⟩ := hj
        rw [List.getElem?_take] at hx
        split at hx
        · have hjn : j < n := by rw [← hl]; exact (List.getElem?_eq_some_iff.1 hx).1
          have := hcc j hjn
          rw [show l.getD j 0 = x by simp [List.getD, hx]] at this
          have ea : (⟨b, off, none⟩ : Addr).add j = ⟨b, off + j, none⟩ := by unfold Addr.add; split <;> simp_all
          rw [ea]; exact this
        · cases hx)
      (by rw [hcl]; simpa using h3) (fun v hv => by obtain ⟨x, _, rfl⟩ := List.mem_map.1 hv; rfl)
    rw [e, hcl, setRow_new]
    have e2 : (#[Value.int .i64 0, .int .i64 0, .int .i64 0].toList.take 0 ++ (l.take 3).map (Value.int .i64) ++ #[Value.int .i64 0, .int .i64 0, .int .i64 0].toList.drop (0 + ((l.take 3).map (Value.int .i64)).length)).toArray = #[.int .i64 (l.getD 0 0), .int .i64 (l.getD 1 0), .int .i64 (l.getD 2 0)] := by
      have : [Value.int .i64 (l.getD 0 0), .int .i64 (l.getD 1 0), .int .i64 (l.getD 2 0)] = #[Value.int .i64 (l.getD 0 0), .int .i64 (l.getD 1 0), .int .i64 (l.getD 2 0)].toList := rfl
      rw [← Array.toList_inj, ← this, ← hT]
      simp [splice]
    rw [hcl] at e2
    rw [e2]

set_option maxHeartbeats 1000000 in
theorem iFirst_any (w : World) (v : Value) (l : List Int) (h : Ints w v l) :
    Calls Tryz.prog 89 #[v] w fun e w' => e = .returned (tri l) ∧ Below w.heap.size w w' := by
  obtain ⟨a, n, cap, rfl, hl, hn, hm, hcell⟩ := h.cases
  unfold maxLen at hm
  have hrun := run_copy3 (w.alloc (.cells #[.int .i64 0, .int .i64 0, .int .i64 0] 100)) a n cap l hl (fun h => by
    obtain ⟨b, off, rfl, hbw, hc⟩ := hcell h
    exact ⟨b, off, rfl, fun j hj => cellk ((below_alloc w _).trans ((below_alloc _ _).mono (by simp))) (hc j hj)⟩)
  rw [show (w.alloc (.cells #[.int .i64 0, .int .i64 0, .int .i64 0] 100)).heap.size = w.heap.size + 1 by simp] at hrun
  have HB := Lib.hid (fun o o' => (below_alloc w o).trans ((below_alloc _ o').mono (by simp) : Below w.heap.size _ _))
  unfold tri
  generalize l.getD 0 0 = x at *
  generalize l.getD 1 0 = y at *
  generalize l.getD 2 0 = z at *
  generalize goInt (Nat.min n 3) = q at *
  clear h hcell hl
  go_enter Tryz.func89, Tryz.ntmps89
  go_wp2_with fail
  exact bodyPost_ret (v := .agg #[.int .i64 x, .int .i64 y, .int .i64 z]) (by simp [results, Tryz.results89, go_sem]) rfl ⟨rfl, HB.out _ _⟩

/-- packedAtom of an atom. -/
def packed (r : Int) (n : Nat) (l : List Int) : Value := .agg #[.int .i64 r, .int .i64 n, .int .i64 (l.getD 0 0), .int .i64 (l.getD 1 0), .int .i64 (l.getD 2 0)]
set_option maxHeartbeats 2000000 in
theorem iPack_any (w : World) (r : Int) (v : Value) (l : List Int) (h : Ints w v l) :
    Calls Tryz.prog 141 #[.agg #[.int .i64 r, v]] w fun e w' => e = .returned (packed r l.length l) ∧ Below w.heap.size w w' := by
  obtain ⟨a, n, cap, rfl, hl, hn, hm, hcell⟩ := h.cases
  unfold maxLen at hm
  have hF := Lib.hid (fun w h => iFirst_any w (.slice a n cap) l h)
  have HT := Lib.hid h
  have HB0 := Lib.hid (fun o o' => (below_alloc w o).trans ((below_alloc _ o').mono (by simp) : Below w.heap.size _ _))
  unfold packed
  rw [hl]
  unfold tri at hF
  generalize l.getD 0 0 = x at *
  generalize l.getD 1 0 = y at *
  generalize l.getD 2 0 = z at *
  clear h hcell hl
  go_enter Tryz.func141, Tryz.ntmps141
  go_wp2_with fail
  go_region_law (first
    | (go_simp; go_at_call 89; refine (hF.out _ (HT.out.below (HB0.out _ _).drew)).mono ?_; rintro e w1 ⟨rfl, hb⟩; have b0 := cellk hb (b := w.heap.size) (o := 0) (v := .int .i64 r) (by simp); have b1 := cellk hb (b := w.heap.size) (o := 1) (v := .slice a n cap) (by simp); have z0 := cellk hb (b := w.heap.size + 1) (o := 0) (v := .int .i64 0) (by simp); have z1 := cellk hb (b := w.heap.size + 1) (o := 1) (v := .int .i64 0) (by simp); have z2 := cellk hb (b := w.heap.size + 1) (o := 2) (v := .int .i64 0) (by simp); have z3 := cellk hb (b := w.heap.size + 1) (o := 3) (v := .int .i64 0) (by simp); have z4 := cellk hb (b := w.heap.size + 1) (o := 4) (v := .int .i64 0) (by simp); have f0 : w1.frozen? ⟨w.heap.size + 1, 0, none⟩ = false := frok hb (v := .int .i64 0) (by simp) (by simp); have f1 : w1.frozen? ⟨w.heap.size + 1, 1, none⟩ = false := frok hb (v := .int .i64 0) (by simp) (by simp); have f2 : w1.frozen? ⟨w.heap.size + 1, 2, none⟩ = false := frok hb (v := .int .i64 0) (by simp) (by simp); have f3 : w1.frozen? ⟨w.heap.size + 1, 3, none⟩ = false := frok hb (v := .int .i64 0) (by simp) (by simp); have f4 : w1.frozen? ⟨w.heap.size + 1, 4, none⟩ = false := frok hb (v := .int .i64 0) (by simp) (by simp); have HB1 := Lib.hid (bnext (HB0.out _ _).drew hb); have hlt := World.block_lt_of_cell? w1 _ z0; clear hb))
  all_goals (go_wp2_with fail)
  all_goals exact bodyPost_ret (v := .agg #[.int .i64 r, .int .i64 n, .int .i64 x, .int .i64 y, .int .i64 z]) (by simp [results, Tryz.results141, go_sem, z0, z1, z2, z3, z4]) rfl ⟨rfl, ((((HB1.out.setCell (by simp) _).setCell (by simp) _).setCell (by simp) _).setCell (by simp) _).setCell (by simp) _⟩
end Go.Proofs.YtfojllkkbdpfkaaGreat

/-! Icmp -/
namespace Go.Proofs.YtfojllkkbdpfkaaGreat
open Go Go.Sort Go.RowKit
set_option linter.unusedVariables false

theorem plain_int : Tryz.prog.plainKey 3 = true := by kernel_rfl
theorem cells_int : Tryz.prog.cellsOf 3 = 1 := by kernel_rfl
theorem info_int_some : ∃ i, Tryz.prog.info? 3 = some i := Option.isSome_iff_exists.1 (by kernel_rfl)
theorem und_tri : Tryz.prog.underlying 100 = some (.array 3 3) := by kernel_rfl
theorem eq_tri (w : World) (d : Nat) (x y z x' y' z' : Int) :
    (Op.equalIn (d + 2) 100 (.agg #[.int .i64 x, .int .i64 y, .int .i64 z]) (.agg #[.int .i64 x', .int .i64 y', .int .i64 z'])).run Tryz.prog w = .ok (decide (x = x' ∧ y = y' ∧ z = z')) w := by
  obtain ⟨i, hi⟩ := info_int_some
  rw [run_equalIn_array w (d + 1) _ _ und_tri hi, cells_int]
  have hp : ∀ (xs : Array Value) (off : Nat) (v : Value), xs[off]? = some v → (part 3 xs off).run Tryz.prog w = .ok v w := fun xs off v h => run_part_plain w plain_int h
  have he : ∀ a b : Int, (Op.equalIn (d + 1) 3 (.int .i64 a) (.int .i64 b)).run Tryz.prog w = .ok (a == b) w := fun a b => run_equalIn_int w d _ .i64 .i64 a b Tryz.underlying3
  generalize d + 1 = D at *
  rw [show List.range 3 = [0, 1, 2] from rfl]
  have g0 : ∀ a b c : Value, (part 3 #[a, b, c] (0 * 1)).run Tryz.prog w = .ok a w := fun a b c => hp _ _ a rfl
  have g1 : ∀ a b c : Value, (part 3 #[a, b, c] (1 * 1)).run Tryz.prog w = .ok b w := fun a b c => hp _ _ b rfl
  have g2 : ∀ a b c : Value, (part 3 #[a, b, c] (2 * 1)).run Tryz.prog w = .ok c w := fun a b c => hp _ _ c rfl
  by_cases h1 : x = x' <;> by_cases h2 : y = y' <;> by_cases h3 : z = z' <;> simp [Op.eqItems, g0, g1, g2, he, h1, h2, h3]
end Go.Proofs.YtfojllkkbdpfkaaGreat

/-! Ieq2 -/
namespace Go.Proofs.YtfojllkkbdpfkaaGreat
open Go Go.Sort Go.RowKit
set_option linter.unusedVariables false

end Go.Proofs.YtfojllkkbdpfkaaGreat

/-! Iqeq -/
namespace Go.Proofs.YtfojllkkbdpfkaaGreat
open Go Go.Sort Go.RowKit
set_option linter.unusedVariables false

end Go.Proofs.YtfojllkkbdpfkaaGreat
