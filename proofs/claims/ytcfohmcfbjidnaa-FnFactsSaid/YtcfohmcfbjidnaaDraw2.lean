/- Contracts of the model's drawing functions, second part: larger numbers, picks, texts. -/
import Derived.Test.YtcfohmcfbjidnaaDraw
namespace Go.Proofs.Ytcfohmcfbjidnaa
open Go.RowKit
set_option linter.unusedVariables false

set_option maxRecDepth 100000 in
set_option maxHeartbeats 4000000 in
theorem l1Below_big (n : Int) (w : World) (S : Value) (len cb : Nat) (h : St w S len cb) (h0 : 256 < n) (h1 : n ≤ 4611686018427387904) :
    Calls Try.prog 62 #[.pointer (some ⟨cb, 0, none⟩), .int .i64 n] w (Drawn w S len cb (n - 1)) := by
  have hc := Lib.hid (fun w h => l1Byte_any w S len cb h)
  have HS := Lib.hid h
  have hn : (n == 0) = false := by simp; omega
  have H1 := Lib.hid h1
  clear h h1
  go_enter Try.func62, Try.ntmps62
  go_wp2_with fail
  refine (hc.out _ HS.out).mono ?_
  rintro e w1 ⟨x, hx0, hx1, rfl, hcur, hg⟩
  have HC1 := Lib.hid (HS.out.next hcur hg)
  have HG1 := Lib.hid hg
  clear hcur hg
  go_wp2_with fail
  refine (hc.out _ HC1.out).mono ?_
  rintro e w2 ⟨y, hy0, hy1, rfl, hcur, hg⟩
  have HC2 := Lib.hid (HC1.out.next hcur hg)
  have HG2 := Lib.hid (grownBy_trans HG1.out hg)
  clear hcur hg
  go_wp2_with fail
  refine (hc.out _ HC2.out).mono ?_
  rintro e w3 ⟨z, hz0, hz1, rfl, hcur, hg⟩
  have HC3 := Lib.hid (HC2.out.next hcur hg)
  have HG3 := Lib.hid (grownBy_trans HG2.out hg)
  clear hcur hg
  go_wp2_with fail
  refine (hc.out _ HC3.out).mono ?_
  rintro e w4 ⟨u, hu0, hu1, rfl, hcur, hg⟩
  have HC4 := Lib.hid (HC3.out.next hcur hg)
  have HG4 := Lib.hid (grownBy_trans HG3.out hg)
  clear hcur hg
  go_wp2_with fail
  go_ret
  refine ⟨(x * 16777216 + y * 65536 + z * 256 + u) % n, Int.emod_nonneg _ (by omega), ?_, rfl, HC4.out.2, HG4.out⟩
  have := Int.emod_lt_of_pos (x * 16777216 + y * 65536 + z * 256 + u) (show 0 < n by omega)
  omega

theorem l1Below_any (n : Int) (w : World) (S : Value) (len cb : Nat) (h : St w S len cb) (h0 : 1 ≤ n) (h1 : n ≤ 4611686018427387904) :
    Calls Try.prog 62 #[.pointer (some ⟨cb, 0, none⟩), .int .i64 n] w (Drawn w S len cb (n - 1)) := by
  by_cases hs : n ≤ 256
  · exact l1Below_small n w S len cb h h0 hs
  · exact l1Below_big n w S len cb h (by omega) h1

/-- A drawing call whose number may be any int64. -/
def DrawnI (w : World) (S : Value) (len cb : Nat) (e : Ending) (w' : World) : Prop :=
  ∃ x : Int, -9223372036854775808 ≤ x ∧ x ≤ 9223372036854775807 ∧ e = .returned (.int .i64 x) ∧ Cur w' S len cb ∧ w.grownBy w' (some cb)

set_option maxRecDepth 100000 in
set_option maxHeartbeats 2000000 in
theorem l1PickInt_any (g n : Nat) (xs : List Int) (w : World) (S : Value) (len cb : Nat) (h : St w S len cb) (hn0 : 1 ≤ n) (hn1 : n ≤ 256) (hg : g ≠ cb) (hx : xs.length = n)
    (hc : w.heap[g]? = some (.cells (xs.map (Value.int .i64)).toArray 3 (0, 0))) (hr : ∀ x ∈ xs, -9223372036854775808 ≤ x ∧ x ≤ 9223372036854775807) :
    Calls Try.prog 77 #[.pointer (some ⟨cb, 0, none⟩), .slice (some ⟨g, 0, none⟩) n n] w (DrawnI w S len cb) := by
  have hb := Lib.hid (l1Below_small (n : Int) w S len cb h (by omega) (by omega))
  have HS := Lib.hid h
  have HR := Lib.hid hr
  have HX := Lib.hid hx
  have HC := Lib.hid hc
  clear h hr hx hc
  go_enter Try.func77, Try.ntmps77
  go_wp2_with fail
  refine hb.out.mono ?_
  rintro e w1 ⟨x, hx0, hx1, rfl, hcur, hg1⟩
  obtain ⟨x, rfl⟩ := Int.eq_ofNat_of_zero_le hx0
  have hxn : x < n := by omega
  have hxl : x < xs.length := by rw [HX.out]; exact hxn
  have hblk : w1.heap[g]? = some (.cells (xs.map (Value.int .i64)).toArray 3 (0, 0)) := by
    rw [hg1.block g (Array.getElem?_eq_some_iff.1 HC.out).1 (by simp; exact hg)]
    exact HC.out
  have hcell : w1.cell? ⟨g, x, none⟩ = some (.int .i64 (xs.getD x 0)) := by
    rw [cell_of_row w1 g x _ _ _ hblk]
    simp [List.getD, List.getElem?_eq_getElem hxl]
  have hmem : xs.getD x 0 ∈ xs := by
    rw [List.getD, List.getElem?_eq_getElem hxl]
    exact List.getElem_mem hxl
  have HM := Lib.hid (HR.out _ hmem)
  have HCU := Lib.hid hcur
  have HG1 := Lib.hid hg1
  clear hcur hg1 hblk hmem hxl
  generalize xs.getD x 0 = y at *
  go_wp2_with fail
  go_ret
  exact ⟨y, HM.out.1, HM.out.2, rfl, HCU.out, HG1.out⟩

theorem St.cb_lt {w : World} {S : Value} {len cb : Nat} (h : St w S len cb) : cb < w.heap.size := by
  obtain ⟨_, i, hh, _, hcb⟩ := h
  exact (Array.getElem?_eq_some_iff.1 hcb).1
theorem St.alloc {w : World} {S : Value} {len cb : Nat} (h : St w S len cb) (o : Obj) : St (w.alloc o) S len cb := by
  have hlt := h.cb_lt
  have hg : w.grownBy (w.alloc o) (some cb) := World.grownBy_alloc w o _
  refine ⟨h.1.grown hg, ?_⟩
  obtain ⟨_, i, hh, hi, hcb⟩ := h
  exact ⟨i, hh, hi, by rw [Below.heap_alloc w o cb hlt]; exact hcb⟩
theorem DrawnI.of {w w0 w' : World} {S : Value} {len cb : Nat} {e : Ending} (h : DrawnI w S len cb e w') (hg : w0.grownBy w (some cb)) : DrawnI w0 S len cb e w' := by
  obtain ⟨x, a, b, c, d, f⟩ := h
  exact ⟨x, a, b, c, d, grownBy_trans hg f⟩

def nums17 : List Int := [-1, 0, 127, 128, 255, 256, 16383, 16384, 65535, 65536, 562949953421311, 562949953421312, 999999999, 1000000000, -999999999, 9223372036854775807, -9223372036854775808]
theorem nums17_ok : ∀ x ∈ nums17, -9223372036854775808 ≤ x ∧ x ≤ 9223372036854775807 := by
  intro x hx
  simp only [nums17, List.mem_cons, List.not_mem_nil, or_false] at hx
  omega

/-- What is handed to a drawing function: an empty slice, or a row of bytes. -/
def Arg (w : World) (S : Value) (len : Nat) : Prop :=
  (∃ a cap, S = .slice a 0 cap ∧ len = 0) ∨ ∃ b off cap, S = .slice (some ⟨b, off, none⟩) len cap ∧ len ≤ cap ∧ len ≤ maxLen ∧ b < w.heap.size ∧ ∀ j, j < len → ∃ z : Int, 0 ≤ z ∧ z < 256 ∧ w.cell? ⟨b, off + j, none⟩ = some (.int .u8 z)
theorem Arg.below {w w' : World} {S : Value} {len : Nat} (h : Arg w S len) (hb : Below w.heap.size w w') : Arg w' S len := by
  rcases h with h | ⟨b, off, cap, hS, h1, h2, hlt, hc⟩
  · exact .inl h
  · refine .inr ⟨b, off, cap, hS, h1, h2, Nat.lt_of_lt_of_le hlt hb.size, fun j hj => ?_⟩
    obtain ⟨z, z0, z1, hz⟩ := hc j hj
    exact ⟨z, z0, z1, by rw [hb.cell (p := ⟨b, off + j, none⟩) hlt]; exact hz⟩
/-- A new cursor: in a block that was not there. -/
def NewCur (w : World) (S : Value) (len : Nat) (e : Ending) (w' : World) : Prop :=
  ∃ cb, w.heap.size ≤ cb ∧ e = .returned (.pointer (some ⟨cb, 0, none⟩)) ∧ St w' S len cb ∧ Below w.heap.size w w'
theorem newCur {w : World} {S : Value} {len : Nat} (h : Arg w S len) (hv : Int) : St (w.alloc (.cells #[S, .int .i64 0, .int .i64 hv] 86)) S len w.heap.size := by
  refine ⟨?_, 0, hv, by omega, heap_alloc_new w _⟩
  have hb : Below w.heap.size w (w.alloc (.cells #[S, .int .i64 0, .int .i64 hv] 86)) := (Below.refl _ _).alloc (Nat.le_refl _) _
  rcases h.below hb with h | ⟨b, off, cap, hS, h1, h2, hlt, hc⟩
  · exact .inl h
  · rcases h with ⟨a', cap', rfl, hl0⟩ | ⟨b', off', cap', hS', _, _, hlt', _⟩
    · exact .inl ⟨a', cap', rfl, hl0⟩
    · have : b = b' := by rw [hS] at hS'; cases hS'; rfl
      exact .inr ⟨b, off, cap, hS, h1, h2, by omega, hlt, hc⟩

set_option maxRecDepth 100000 in
set_option maxHeartbeats 2000000 in
theorem l1New_some (w : World) (b off len cap : Nat) (hlc : len ≤ cap) (hlm : len ≤ maxLen) (hA : Arg w (.slice (some ⟨b, off, none⟩) len cap) len) (hc : ∀ j, j < len → ∃ z : Int, 0 ≤ z ∧ z < 256 ∧ w.cell? ⟨b, off + j, none⟩ = some (.int .u8 z)) :
    Calls Try.prog 59 #[.slice (some ⟨b, off, none⟩) len cap] w (NewCur w (.slice (some ⟨b, off, none⟩) len cap) len) := by
  have HC := Lib.hid hc
  have HA := Lib.hid hA
  clear hc hA
  unfold maxLen at hlm
  go_enter Try.func59, Try.ntmps59
  go_wp2_with fail
  go_loop [3, 4] (fun hs iv => ∃ (i : Nat) (hv : Int), i ≤ len ∧ iv = .int .i64 i ∧ hs = .int .i64 hv) (fun _ iv => len - (intOf iv).toNat)
  case atStart => exact ⟨0, _, by omega, rfl, rfl⟩
  case round =>
    obtain ⟨i, hv, hi, rfl, rfl⟩ := hrel
    by_cases hlt : i < len
    · obtain ⟨z, z0, z1, hz⟩ := HC.out i hlt
      have hi0 : (0 : Int) ≤ i := by omega
      have hi1 : (i : Int) < len := by omega
      by_cases h4 : (i : Int) < 4000
      · go_wp2_with fail
        exact ⟨⟨i + 1, _, by omega, by simp, rfl⟩, by simp [intOf]; omega⟩
      · go_wp2_with fail
        go_ret
        exact ⟨w.heap.size, Nat.le_refl _, rfl, newCur HA.out hv, (Below.refl _ _).alloc (Nat.le_refl _) _⟩
    · go_wp2_with fail
      go_ret
      exact ⟨w.heap.size, Nat.le_refl _, rfl, newCur HA.out hv, (Below.refl _ _).alloc (Nat.le_refl _) _⟩
set_option maxHeartbeats 1000000 in
theorem l1New_nil (a : Option Addr) (cap : Nat) (w : World) (hA : Arg w (.slice a 0 cap) 0) :
    Calls Try.prog 59 #[.slice a 0 cap] w (NewCur w (.slice a 0 cap) 0) := by
  have HA := Lib.hid hA
  clear hA
  go_enter Try.func59, Try.ntmps59
  go_wp2_with fail
  refine wp_loop_rounds 1 ?_
  rw [rounds_succ]
  go_wp2_with fail
  go_ret
  exact ⟨w.heap.size, Nat.le_refl _, rfl, newCur HA.out _, (Below.refl _ _).alloc (Nat.le_refl _) _⟩
theorem l1New_any (w : World) (S : Value) (len : Nat) (h : Arg w S len) :
    Calls Try.prog 59 #[S] w (NewCur w S len) := by
  rcases h with ⟨a, cap, rfl, rfl⟩ | ⟨b, off, cap, rfl, h1, h2, h3, h4⟩
  · exact l1New_nil a cap w (.inl ⟨a, cap, rfl, rfl⟩)
  · exact l1New_some w b off len cap h1 h2 (.inr ⟨b, off, cap, rfl, h1, h2, h3, h4⟩) h4
end Go.Proofs.Ytcfohmcfbjidnaa
