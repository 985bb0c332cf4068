/- Contracts of drawing functions: what AddFact and RemoveFact are drawn at (the outer functions). -/
import Derived.Test.YtfojllkkbdpfkaaDrAll
namespace Go.Proofs.Ytfojllkkbdpfkaa
open Go Go.Sort Go.RowKit
set_option linter.unusedVariables false

set_option maxRecDepth 100000 in
set_option maxHeartbeats 4000000 in
theorem drawAddFact_any (w : World) (S : Value) (len : Nat) (h : Arg w S len) :
    Calls Try.prog 36 #[S] w (DrewSLF w) := by
  have hdr := Lib.hid (fun w h => l5Draw_any w S len h)
  have hb0 : ∀ o p, Below w.heap.size w ((w.alloc o).alloc p) := fun o p => ((Below.refl _ _).alloc (Nat.le_refl _) _).alloc (by simp) _
  obtain ⟨wA, hwA⟩ : ∃ wA, wA = (w.alloc (.cells #[.slice none 0 0] 33)).alloc (.cells #[.int .i64 0, .slice none 0 0] 61) := ⟨_, rfl⟩
  have HBA : Hid (Below w.heap.size w wA) := by rw [hwA]; exact hb0 _ _
  have HA := Lib.hid (h.below HBA.out)
  have hR1 : wA.heap[w.heap.size]? = some (.cells #[.slice none 0 0] 33 (0, 0)) := by
    rw [hwA, (below_alloc (w.alloc (.cells #[.slice none 0 0] 33)) (.cells #[.int .i64 0, .slice none 0 0] 61)).block _ (by simp)]
    exact heap_alloc_new w _
  have hR2 : wA.heap[w.heap.size + 1]? = some (.cells #[.int .i64 0, .slice none 0 0] 61 (0, 0)) := by
    have := heap_alloc_new (w.alloc (.cells #[.slice none 0 0] 33)) (.cells #[.int .i64 0, .slice none 0 0] 61)
    rw [hwA]; simpa using this
  obtain ⟨r1, hr1⟩ : ∃ r, r = w.heap.size := ⟨_, rfl⟩
  obtain ⟨r2, hr2⟩ : ∃ r, r = w.heap.size + 1 := ⟨_, rfl⟩
  rw [← hr1] at hR1
  rw [← hr2] at hR2
  have hr12 : r1 ≠ r2 := by omega
  have hlow1 : w.heap.size ≤ r1 := by omega
  have hlow2 : w.heap.size ≤ r2 := by omega
  have HR1 := Lib.hid hR1
  have HR2 := Lib.hid hR2
  clear h hb0
  go_enter Try.func36, Try.ntmps36
  go_wp2_with fail
  rw [← hwA]
  try rw [← hr2]
  try rw [← hr1]
  clear hr1 hr2 hwA hR1 hR2
  refine (hdr.out _ HA.out).mono ?_
  rintro e w1 ⟨vs, v, vf, s, l, f, b1, b2, b3, rfl, ⟨sa, sn, sc, rfl, hs⟩, ⟨a, n, c, rfl, hl⟩, ⟨fa, fn, fc, rfl, hri, hf⟩, hlo, hs5, hl34, hl4, hf4, hb⟩
  have m1 := cellk hb (by rw [cell_of_row wA r1 0 _ _ _ HR1.out]; rfl : wA.cell? ⟨r1, 0, none⟩ = some (.slice none 0 0))
  have m2 := cellk hb (by rw [cell_of_row wA r2 0 _ _ _ HR2.out]; rfl : wA.cell? ⟨r2, 0, none⟩ = some (.int .i64 0))
  have m3 := cellk hb (by rw [cell_of_row wA r2 1 _ _ _ HR2.out]; rfl : wA.cell? ⟨r2, 1, none⟩ = some (.slice none 0 0))
  obtain ⟨w2, hw2⟩ : ∃ w2, w2 = (w1.alloc (.cells #[.slice sa sn sc] 33)).alloc (.cells #[.int .i64 f.1, .slice fa fn fc] 61) := ⟨_, rfl⟩
  have hb2 : Below w1.heap.size w1 w2 := by rw [hw2]; exact ((Below.refl _ _).alloc (Nat.le_refl _) _).alloc (by simp) _
  obtain ⟨f1, hf1⟩ : ∃ r, r = w1.heap.size := ⟨_, rfl⟩
  obtain ⟨f2, hf2⟩ : ∃ r, r = w1.heap.size + 1 := ⟨_, rfl⟩
  have hg1 : r1 < w1.heap.size := World.block_lt_of_cell? w1 _ m1
  have hg2 : r2 < w1.heap.size := World.block_lt_of_cell? w1 _ m2
  have hrA1 := heap_lt HR1.out
  have hrA2 := heap_lt HR2.out
  have k1 : w2.heap[r1]? = some (.cells #[.slice none 0 0] 33 (0, 0)) := by rw [hb2.block _ hg1, hb.block _ hrA1]; exact HR1.out
  have k2 : w2.heap[r2]? = some (.cells #[.int .i64 0, .slice none 0 0] 61 (0, 0)) := by rw [hb2.block _ hg2, hb.block _ hrA2]; exact HR2.out
  have n1 : w2.cell? ⟨r1, 0, none⟩ = some (.slice none 0 0) := by rw [cell_of_row w2 r1 0 _ _ _ k1]; rfl
  have n2 : w2.cell? ⟨r2, 0, none⟩ = some (.int .i64 0) := by rw [cell_of_row w2 r2 0 _ _ _ k2]; rfl
  have n3 : w2.cell? ⟨r2, 1, none⟩ = some (.slice none 0 0) := by rw [cell_of_row w2 r2 1 _ _ _ k2]; rfl
  have z1 := frozen_of_row w2 r1 0 _ _ k1
  have z2 := frozen_of_row w2 r2 0 _ _ k2
  have z3 := frozen_of_row w2 r2 1 _ _ k2
  have c1 : w2.cell? ⟨f1, 0, none⟩ = some (.slice sa sn sc) := by rw [hw2, hf1]; simp
  have c2 : w2.cell? ⟨f2, 0, none⟩ = some (.int .i64 f.1) := by rw [hw2, hf2]; simp
  have c3 : w2.cell? ⟨f2, 1, none⟩ = some (.slice fa fn fc) := by rw [hw2, hf2]; simp
  have HEND : Hid (∀ wf, OnlyAt [r1, r2] w2.drew wf → DrewSLF w (.returned (.tuple #[.agg #[.slice sa sn sc], .slice a n c, .agg #[.int .i64 f.1, .slice fa fn fc]])) wf) := by
    intro wf k
    have hd : Below w2.heap.size w2 w2.drew := (Below.refl _ _).drew
    have hrs := HBA.out.size
    have hne : ∀ b, b ∈ b1 ∨ b ∈ b2 ∨ b ∈ b3 → b ∉ [r1, r2] := fun b hb' hm => by have := hlo b hb'; simp at hm; omega
    have e1 : ROSchema w1 (.agg #[.slice sa sn sc]) s b1 := ⟨_, _, _, rfl, hs⟩
    have e2 : ROAtomS w1 (.slice a n c) l b2 := ⟨_, _, _, rfl, hl⟩
    have e3 : ROAtom w1 (.agg #[.int .i64 f.1, .slice fa fn fc]) f b3 := ⟨_, _, _, rfl, hri, hf⟩
    have h1 : Below w.heap.size w w2.drew := bnext (bnext (bnext HBA.out hb) hb2) hd
    have h3 := OnlyAt.below h1 k (fun b hb => by simp at hb; omega)
    exact ⟨_, _, _, s, l, f, b1, b2, b3, rfl, ((e1.below hb2).below hd).onlyAt k (fun b hb => hne b (.inl hb)), ((e2.below hb2).below hd).onlyAt k (fun b hb => hne b (.inr (.inl hb))), ((e3.below hb2).below hd).onlyAt k (fun b hb => hne b (.inr (.inr hb))), fun b hb => by have := hlo b hb; omega, hs5, hl34, hl4, hf4, h3⟩
  have hq1 : f1 ≠ r1 := by omega
  have hq2 : f1 ≠ r2 := by omega
  have hq3 : f2 ≠ r1 := by omega
  have hq4 : f2 ≠ r2 := by omega
  clear hs hl hf hlo hs5 hl34 hl4 hf4 hb hb2 k1 k2 m1 m2 m3 hri hrA1 hrA2 hg1 hg2 HA HBA HR1 HR2
  go_wp2_with fail
  rw [← hf2, ← hf1, ← hw2]
  clear hf1 hf2 hw2
  go_region_law fail
  all_goals (go_wp2_with fail)
  all_goals
    exact bodyPost_ret (v := .tuple #[.agg #[.slice sa sn sc], .slice a n c, .agg #[.int .i64 f.1, .slice fa fn fc]]) (by simp [results, Try.results36, go_sem, n1, n2, n3]) rfl (HEND.out _ (OnlyAt.same (OnlyAt.same ((OnlyAt.setCell _ _ _ _).wider (by simp)) ((OnlyAt.setCell _ _ _ _).wider (by simp))) ((OnlyAt.setCell _ _ _ _).wider (by simp))))

set_option maxRecDepth 100000 in
set_option maxHeartbeats 4000000 in
theorem drawRemoveFact_any (w : World) (S : Value) (len : Nat) (h : Arg w S len) :
    Calls Try.prog 45 #[S] w (DrewSLF w) := by
  have hdr := Lib.hid (fun w h => l5Draw_any w S len h)
  have hb0 : ∀ o p, Below w.heap.size w ((w.alloc o).alloc p) := fun o p => ((Below.refl _ _).alloc (Nat.le_refl _) _).alloc (by simp) _
  obtain ⟨wA, hwA⟩ : ∃ wA, wA = (w.alloc (.cells #[.slice none 0 0] 33)).alloc (.cells #[.int .i64 0, .slice none 0 0] 61) := ⟨_, rfl⟩
  have HBA : Hid (Below w.heap.size w wA) := by rw [hwA]; exact hb0 _ _
  have HA := Lib.hid (h.below HBA.out)
  have hR1 : wA.heap[w.heap.size]? = some (.cells #[.slice none 0 0] 33 (0, 0)) := by
    rw [hwA, (below_alloc (w.alloc (.cells #[.slice none 0 0] 33)) (.cells #[.int .i64 0, .slice none 0 0] 61)).block _ (by simp)]
    exact heap_alloc_new w _
  have hR2 : wA.heap[w.heap.size + 1]? = some (.cells #[.int .i64 0, .slice none 0 0] 61 (0, 0)) := by
    have := heap_alloc_new (w.alloc (.cells #[.slice none 0 0] 33)) (.cells #[.int .i64 0, .slice none 0 0] 61)
    rw [hwA]; simpa using this
  obtain ⟨r1, hr1⟩ : ∃ r, r = w.heap.size := ⟨_, rfl⟩
  obtain ⟨r2, hr2⟩ : ∃ r, r = w.heap.size + 1 := ⟨_, rfl⟩
  rw [← hr1] at hR1
  rw [← hr2] at hR2
  have hr12 : r1 ≠ r2 := by omega
  have hlow1 : w.heap.size ≤ r1 := by omega
  have hlow2 : w.heap.size ≤ r2 := by omega
  have HR1 := Lib.hid hR1
  have HR2 := Lib.hid hR2
  clear h hb0
  go_enter Try.func45, Try.ntmps45
  go_wp2_with fail
  rw [← hwA]
  try rw [← hr2]
  try rw [← hr1]
  clear hr1 hr2 hwA hR1 hR2
  refine (hdr.out _ HA.out).mono ?_
  rintro e w1 ⟨vs, v, vf, s, l, f, b1, b2, b3, rfl, ⟨sa, sn, sc, rfl, hs⟩, ⟨a, n, c, rfl, hl⟩, ⟨fa, fn, fc, rfl, hri, hf⟩, hlo, hs5, hl34, hl4, hf4, hb⟩
  have m1 := cellk hb (by rw [cell_of_row wA r1 0 _ _ _ HR1.out]; rfl : wA.cell? ⟨r1, 0, none⟩ = some (.slice none 0 0))
  have m2 := cellk hb (by rw [cell_of_row wA r2 0 _ _ _ HR2.out]; rfl : wA.cell? ⟨r2, 0, none⟩ = some (.int .i64 0))
  have m3 := cellk hb (by rw [cell_of_row wA r2 1 _ _ _ HR2.out]; rfl : wA.cell? ⟨r2, 1, none⟩ = some (.slice none 0 0))
  obtain ⟨w2, hw2⟩ : ∃ w2, w2 = (w1.alloc (.cells #[.slice sa sn sc] 33)).alloc (.cells #[.int .i64 f.1, .slice fa fn fc] 61) := ⟨_, rfl⟩
  have hb2 : Below w1.heap.size w1 w2 := by rw [hw2]; exact ((Below.refl _ _).alloc (Nat.le_refl _) _).alloc (by simp) _
  obtain ⟨f1, hf1⟩ : ∃ r, r = w1.heap.size := ⟨_, rfl⟩
  obtain ⟨f2, hf2⟩ : ∃ r, r = w1.heap.size + 1 := ⟨_, rfl⟩
  have hg1 : r1 < w1.heap.size := World.block_lt_of_cell? w1 _ m1
  have hg2 : r2 < w1.heap.size := World.block_lt_of_cell? w1 _ m2
  have hrA1 := heap_lt HR1.out
  have hrA2 := heap_lt HR2.out
  have k1 : w2.heap[r1]? = some (.cells #[.slice none 0 0] 33 (0, 0)) := by rw [hb2.block _ hg1, hb.block _ hrA1]; exact HR1.out
  have k2 : w2.heap[r2]? = some (.cells #[.int .i64 0, .slice none 0 0] 61 (0, 0)) := by rw [hb2.block _ hg2, hb.block _ hrA2]; exact HR2.out
  have n1 : w2.cell? ⟨r1, 0, none⟩ = some (.slice none 0 0) := by rw [cell_of_row w2 r1 0 _ _ _ k1]; rfl
  have n2 : w2.cell? ⟨r2, 0, none⟩ = some (.int .i64 0) := by rw [cell_of_row w2 r2 0 _ _ _ k2]; rfl
  have n3 : w2.cell? ⟨r2, 1, none⟩ = some (.slice none 0 0) := by rw [cell_of_row w2 r2 1 _ _ _ k2]; rfl
  have z1 := frozen_of_row w2 r1 0 _ _ k1
  have z2 := frozen_of_row w2 r2 0 _ _ k2
  have z3 := frozen_of_row w2 r2 1 _ _ k2
  have c1 : w2.cell? ⟨f1, 0, none⟩ = some (.slice sa sn sc) := by rw [hw2, hf1]; simp
  have c2 : w2.cell? ⟨f2, 0, none⟩ = some (.int .i64 f.1) := by rw [hw2, hf2]; simp
  have c3 : w2.cell? ⟨f2, 1, none⟩ = some (.slice fa fn fc) := by rw [hw2, hf2]; simp
  have HEND : Hid (∀ wf, OnlyAt [r1, r2] w2.drew wf → DrewSLF w (.returned (.tuple #[.agg #[.slice sa sn sc], .slice a n c, .agg #[.int .i64 f.1, .slice fa fn fc]])) wf) := by
    intro wf k
    have hd : Below w2.heap.size w2 w2.drew := (Below.refl _ _).drew
    have hrs := HBA.out.size
    have hne : ∀ b, b ∈ b1 ∨ b ∈ b2 ∨ b ∈ b3 → b ∉ [r1, r2] := fun b hb' hm => by have := hlo b hb'; simp at hm; omega
    have e1 : ROSchema w1 (.agg #[.slice sa sn sc]) s b1 := ⟨_, _, _, rfl, hs⟩
    have e2 : ROAtomS w1 (.slice a n c) l b2 := ⟨_, _, _, rfl, hl⟩
    have e3 : ROAtom w1 (.agg #[.int .i64 f.1, .slice fa fn fc]) f b3 := ⟨_, _, _, rfl, hri, hf⟩
    have h1 : Below w.heap.size w w2.drew := bnext (bnext (bnext HBA.out hb) hb2) hd
    have h3 := OnlyAt.below h1 k (fun b hb => by simp at hb; omega)
    exact ⟨_, _, _, s, l, f, b1, b2, b3, rfl, ((e1.below hb2).below hd).onlyAt k (fun b hb => hne b (.inl hb)), ((e2.below hb2).below hd).onlyAt k (fun b hb => hne b (.inr (.inl hb))), ((e3.below hb2).below hd).onlyAt k (fun b hb => hne b (.inr (.inr hb))), fun b hb => by have := hlo b hb; omega, hs5, hl34, hl4, hf4, h3⟩
  have hq1 : f1 ≠ r1 := by omega
  have hq2 : f1 ≠ r2 := by omega
  have hq3 : f2 ≠ r1 := by omega
  have hq4 : f2 ≠ r2 := by omega
  clear hs hl hf hlo hs5 hl34 hl4 hf4 hb hb2 k1 k2 m1 m2 m3 hri hrA1 hrA2 hg1 hg2 HA HBA HR1 HR2
  go_wp2_with fail
  rw [← hf2, ← hf1, ← hw2]
  clear hf1 hf2 hw2
  go_region_law fail
  all_goals (go_wp2_with fail)
  all_goals
    exact bodyPost_ret (v := .tuple #[.agg #[.slice sa sn sc], .slice a n c, .agg #[.int .i64 f.1, .slice fa fn fc]]) (by simp [results, Try.results45, go_sem, n1, n2, n3]) rfl (HEND.out _ (OnlyAt.same (OnlyAt.same ((OnlyAt.setCell _ _ _ _).wider (by simp)) ((OnlyAt.setCell _ _ _ _).wider (by simp))) ((OnlyAt.setCell _ _ _ _).wider (by simp))))
end Go.Proofs.Ytfojllkkbdpfkaa
