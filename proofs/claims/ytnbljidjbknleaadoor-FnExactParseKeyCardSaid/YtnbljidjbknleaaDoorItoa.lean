/- Contract: impl.FormatInt (strconv.Itoa) returns the decimal numeral of n, in a world that holds the library's table of powers of ten. -/
import Derived.Test.YtnbljidjbknleaaDoorSfmt
import Derived.Test.YtnbljidjbknleaaDoorShelf
import Derived.Lib.AppendIntMem
import Derived.WalkSmall
import Derived.Lib.LaidTab
namespace Go.Proofs.YtnbljidjbknleaaDoor
open Go.RowKit
set_option linter.unusedVariables false

abbrev Tab (w : World) : Prop := Lib.TabIs Tryd.prog w "internal/strconv.uint64pow10" .u64 Lib.pow10Tab
theorem gTab : Tryd.prog.globalNamed "internal/strconv.uint64pow10" = some 2 := by kernel_rfl
theorem gTab32 : Tryd.prog.globalNamed "math/bits.deBruijn32tab" = some 5 := by kernel_rfl
theorem gTab64 : Tryd.prog.globalNamed "math/bits.deBruijn64tab" = some 6 := by kernel_rfl
theorem gTabType : (Tryd.prog.globals[2]?).map (·.type) = some 183 := by kernel_rfl
theorem cellsTab : Tryd.prog.cellsOf 183 = 20 := by kernel_rfl
theorem cellsU64 : Tryd.prog.cellsOf 171 = 1 := by kernel_rfl
theorem Tab.below {w w' : World} (h : Tab w) (hb : Below w.heap.size w w') : Tab w' := by
  have hlt : 2 < w.heap.size := by
    have h2 : w.var? Tryd.prog "internal/strconv.uint64pow10" = some _ := h
    unfold World.var? at h2
    simp only [gTab, Option.bind_some] at h2
    rcases Nat.lt_or_ge 2 w.heap.size with h3 | h3
    · exact h3
    · rw [Array.getElem?_eq_none h3] at h2
      cases h2
  exact var?_below hb gTab hlt h

set_option maxHeartbeats 1000000 in
theorem iFormatInt_any (n : Int) (w : World) (h0 : -9223372036854775808 ≤ n) (h1 : n ≤ 9223372036854775807) (ht : Tab w) :
    Calls Tryd.prog 73 #[.int .i64 n] w fun e w' => e = .returned (.string (bs (Lib.itoa n))) ∧ Below w.heap.size w w' := by
  have hc : Hid (Calls Tryd.prog 92 #[.int .i64 n] w fun e w' => e = .returned (.string (bs (Lib.itoa n))) ∧ Below w.heap.size w w') :=
    (Tryd.strconv_Itoa n h0 h1 w ht).mono (fun e w' ⟨he, k, os, hw⟩ => ⟨he, by rw [hw]; exact Lib.below_grow w.heap.size w (Nat.le_refl _) k os⟩)
  clear h0 h1 ht
  go_enter Tryd.func73, Tryd.ntmps73
  go_wp2_with fail
  refine hc.out.mono ?_
  rintro e w1 ⟨rfl, hb⟩
  have HB := Lib.hid hb
  clear hb
  go_wp2
  go_ret
  exact ⟨rfl, HB.out⟩
end Go.Proofs.YtnbljidjbknleaaDoor
