/- Contracts of chapter 9's impl: (body).has, over slices.ContainsFunc and slices.IndexFunc. -/
import Derived.Test.YtdbeogmabcbdoaaI9c
import Derived.Test.YtdbeogmabcbdoaaS9d
import Derived.Test.YtdbeogmabcbdoaaIcAll
namespace Go.Proofs.Ytdbeogmabcbdoaa
open Go Go.Sort Go.RowKit
set_option linter.unusedVariables false

set_option maxHeartbeats 4000000 in
theorem iHas1_any (w : World) (B : Nat) (ea : Option Addr) (em ec : Nat) (e : AtomD) (ya : Option Addr) (ym yc : Nat) (x : AtomD) (k0 : w.cell? ⟨B, 0, none⟩ = some (.int .i64 e.1)) (k1 : w.cell? ⟨B, 1, none⟩ = some (.slice ea em ec)) (he : Ints w (.slice ea em ec) e.2) (hx : Ints w (.slice ya ym yc) x.2) (hz : e.2.length ≤ 1048576) :
    Calls Try.prog 65 #[.agg #[.int .i64 x.1, .slice ya ym yc], .pointer (some ⟨B, 0, none⟩)] w (GaveBool w (decide (e = x))) := by
  have HEQ := Lib.hid (fun W (hb : Below w.heap.size w W) => iEqualAtoms_any W e.1 x.1 (.slice ea em ec) (.slice ya ym yc) e.2 x.2 (he.below hb) (hx.below hb) hz)
  rw [eq9] at HEQ
  have hal := below_alloc w (.cells #[.int .i64 x.1, .slice ya ym yc] 53)
  have j0 := cellk hal k0
  have j1 := cellk hal k1
  have HAL := Lib.hid hal
  generalize decide (e = x) = q at *
  generalize e.1 = r at *
  generalize x.1 = r' at *
  clear he hx hz hal k0 k1
  go_enter Try.func65, Try.ntmps65
  go_wp2_with fail
  refine (HEQ.out _ HAL.out).mono ?_
  rintro e w1 ⟨rfl, hb⟩
  have HB1 := Lib.hid (bnext HAL.out hb)
  clear hb
  go_wp2_with fail
  go_ret
  exact ⟨rfl, HB1.out⟩

def GaveIx (w : World) (q : Bool) (e : Ending) (w' : World) : Prop := ∃ m : Int, e = .returned (.int .i64 m) ∧ decide (0 ≤ m) = q ∧ Below w.heap.size w w'
set_option maxHeartbeats 4000000 in
theorem iIdx_any (w : World) (v : Value) (L : List AtomD) (B : Nat) (ea : Option Addr) (em ec : Nat) (e : AtomD) (h : RdAtomS w v L) (k0 : w.cell? ⟨B, 0, none⟩ = some (.int .i64 e.1)) (k1 : w.cell? ⟨B, 1, none⟩ = some (.slice ea em ec)) (he : Ints w (.slice ea em ec) e.2) (hz : e.2.length ≤ 1048576) (hz2 : L.length ≤ 1048576) :
    Calls Try.prog 82 #[v, .func (.func 65) #[] #[.pointer (some ⟨B, 0, none⟩)]] w (GaveIx w (decide (e ∈ L))) := by
  obtain ⟨a, n, c, rfl, h⟩ := h
  obtain ⟨hl, hn, hm, hcell⟩ := h.at
  unfold maxLen at hm
  have HC := Lib.hid hcell
  have HL := Lib.hid hl
  have HF := Lib.hid (fun W (hb : Below w.heap.size w W) ya ym yc x (hx : Ints w (.slice ya ym yc) x.2) => iHas1_any W B ea em ec e ya ym yc x (cellk hb k0) (cellk hb k1) (he.below hb) (hx.below hb) hz)
  have hn2 : n ≤ 1048576 := by omega
  clear h hcell hl he hz hz2 k0 k1
  go_enter Try.func82, Try.ntmps82
  go_wp2_with fail
  go_loopw [8] (fun iv wr => ∃ i : Nat, i ≤ n ∧ iv = .int .i64 i ∧ Hid (decide (e ∈ L.take i) = false) ∧ Hid (Below w.heap.size w wr)) (fun iv _ => n - (intOf iv).toNat)
  case atStart => exact ⟨0, by omega, rfl, Lib.hid (by simp), Lib.hid (Below.refl _ _)⟩
  case round =>
    obtain ⟨i, hi, rfl, HNO, HB⟩ := hrel
    by_cases hlt : i < n
    · obtain ⟨b, off, rfl, hbw, hc⟩ := HC.out (by omega)
      obtain ⟨x, hx⟩ : ∃ x, L[i]? = some x := ⟨L[i]'(by rw [HL.out]; exact hlt), List.getElem?_eq_getElem (by rw [HL.out]; exact hlt)⟩
      obtain ⟨ya, ym, yc, c0, c1, hdi, hints⟩ := atomAt (n := n) hc i x hx
      have r0 := cellk HB.out c0
      have r1 := cellk HB.out c1
      have hi0 : (0 : Int) ≤ i := by omega
      have hi1 : (i : Int) < n := by omega
      have HMT := Lib.hid (mem_take9 (e := e) hx)
      have HXL := Lib.hid (List.mem_of_getElem? hx)
      have HCL := Lib.hid (HF.out wr HB.out ya ym yc x hints)
      have hsym : decide (e = x) = decide (x = e) := by
        by_cases h : e = x
        · subst h; rfl
        · rw [decide_eq_false h, decide_eq_false (fun h2 => h h2.symm)]
      rw [hsym] at HCL
      obtain ⟨q, hq⟩ : ∃ q, decide (x = e) = q := ⟨_, rfl⟩
      rw [hq] at HCL HMT
      rw [HNO.out] at HMT
      have HQ := Lib.hid hq
      generalize x.1 = r at *
      clear hc hbw c0 c1 hdi hints hx hsym hq
      cases q with
      | true =>
        have HIN : Hid (decide (e ∈ L) = true) := by
          have h1 : x = e := of_decide_eq_true HQ.out
          rw [← h1]; exact Lib.hid (decide_eq_true HXL.out)
        go_wp2_with fail
        refine HCL.out.mono ?_
        rintro e2 w2 ⟨rfl, hb⟩
        have HB2 := Lib.hid (bnext HB.out hb)
        clear hb
        go_wp2_with fail
        go_ret
        exact ⟨_, rfl, by rw [HIN.out]; exact decide_eq_true (by omega), HB2.out⟩
      | false =>
        go_wp2_with fail
        refine HCL.out.mono ?_
        rintro e2 w2 ⟨rfl, hb⟩
        have HB2 := Lib.hid (bnext HB.out hb)
        clear hb
        go_wp2_with fail
        exact ⟨⟨i + 1, by omega, by simp, by rw [HMT.out]; exact Lib.hid rfl, HB2⟩, by simp [intOf]; omega⟩
    · obtain rfl : i = n := by omega
      have HIN : Hid (decide (e ∈ L) = false) := by
        have := HNO.out
        rw [List.take_of_length_le (by rw [HL.out]; exact Nat.le_refl _)] at this
        exact this
      go_wp2_with fail
      go_ret
      exact ⟨-1, rfl, by rw [HIN.out]; rfl, HB.out⟩

set_option maxHeartbeats 4000000 in
theorem iContains9_any (w : World) (v : Value) (L : List AtomD) (B : Nat) (ea : Option Addr) (em ec : Nat) (e : AtomD) (h : RdAtomS w v L) (k0 : w.cell? ⟨B, 0, none⟩ = some (.int .i64 e.1)) (k1 : w.cell? ⟨B, 1, none⟩ = some (.slice ea em ec)) (he : Ints w (.slice ea em ec) e.2) (hz : e.2.length ≤ 1048576) (hz2 : L.length ≤ 1048576) :
    Calls Try.prog 64 #[v, .func (.func 65) #[] #[.pointer (some ⟨B, 0, none⟩)]] w (GaveBool w (decide (e ∈ L))) := by
  have HX := Lib.hid (iIdx_any w v L B ea em ec e h k0 k1 he hz hz2)
  obtain ⟨a, n, c, rfl⟩ := h.shape9
  generalize decide (e ∈ L) = q at *
  clear h k0 k1 he hz hz2
  go_enter Try.func64, Try.ntmps64
  go_wp2_with fail
  refine HX.out.mono ?_
  rintro e2 w2 ⟨m, rfl, hm, hb⟩
  have HM := Lib.hid hm
  have HB := Lib.hid hb
  clear hm hb
  go_wp2_with fail
  go_ret
  exact ⟨ret_b HM.out, HB.out⟩

set_option maxHeartbeats 4000000 in
theorem iHas_any (w : World) (v : Value) (L : List AtomD) (ea : Option Addr) (em ec : Nat) (e : AtomD) (h : RdAtomS w v L) (he : Ints w (.slice ea em ec) e.2) (hz : e.2.length ≤ 1048576) (hz2 : L.length ≤ 1048576) :
    Calls Try.prog 49 #[v, .agg #[.int .i64 e.1, .slice ea em ec]] w (GaveBool w (decide (e ∈ L))) := by
  have hal := below_alloc w (.cells #[.int .i64 e.1, .slice ea em ec] 53)
  have HX := Lib.hid (iContains9_any (w.alloc (.cells #[.int .i64 e.1, .slice ea em ec] 53)) v L w.heap.size ea em ec e (h.below hal) (newBox w _ _ 0 _ rfl) (newBox w _ _ 1 _ rfl) (he.below hal) hz hz2)
  have HAL := Lib.hid hal
  obtain ⟨a, n, c, rfl⟩ := h.shape9
  generalize decide (e ∈ L) = q at *
  generalize e.1 = r at *
  clear h he hz hz2 hal
  go_enter Try.func49, Try.ntmps49
  go_wp2_with fail
  refine HX.out.mono ?_
  rintro e2 w2 ⟨rfl, hb⟩
  have HB := Lib.hid (bnext HAL.out hb)
  clear hb
  go_wp2_with fail
  go_ret
  exact ⟨rfl, HB.out⟩
end Go.Proofs.Ytdbeogmabcbdoaa
