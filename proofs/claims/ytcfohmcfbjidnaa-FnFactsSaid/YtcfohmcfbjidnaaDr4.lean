/- Contracts of drawing functions that answer memory: a schema with a list of facts. -/
import Derived.Test.YtcfohmcfbjidnaaDr3
namespace Go.Proofs.Ytcfohmcfbjidnaa
open Go Go.Sort Go.RowKit
set_option linter.unusedVariables false

theorem SI.dst {w0 w w' : World} {RB : Obj} {x0 : Value} {rb fb o : Nat} {xv : Value} {l : List Int} {S : Value} {len cb : Nat} (h : SI w0 RB x0 rb fb o w xv l S len cb) (hd : DSt w w' S len cb) : SI w0 RB x0 rb fb o w' xv l S len cb := h.draw hd.2.2 hd.2.1.grownBy
theorem SI.past {w0 w w' : World} {RB : Obj} {x0 : Value} {rb fb o B : Nat} {xv : Value} {l : List Int} {S : Value} {len cb : Nat} {bs : List Nat} (h : SI w0 RB x0 rb fb o w xv l S len cb) (k : OnlyAt bs w w') (hb : ∀ b ∈ bs, B ≤ b) (hx : ∀ b ∈ blk xv, b < B) (hf : fb < B) (hr : rb < B) (h0 : w0.heap.size ≤ B) : SI w0 RB x0 rb fb o w' xv l S len cb :=
  h.only k (fun b hm => ⟨fun hq => by have := hb b hm; have := hx b hq; omega, by have := hb b hm; omega, by have := hb b hm; omega⟩) (h.2.2.2.2.2.2.2.only k (fun b hm => by have := hb b hm; omega))
theorem DFs.ready {B : Nat} {w4 w5 : World} {v : Value} {l : List AtomD} {S : Value} {len cb : Nat} (h : DFs B w4 v l) (hlt : cb < B) (hd : DSt w4 w5 S len cb) :
    ∃ W bss cs, W.heap.size = B ∧ OutInv 29 W w5 v l bss ∧ BuiltC 29 2 W w5 v l.length cs ∧ Els w5 cs l bss ∧ (∀ b ∈ blk v, B ≤ b ∧ b < w4.heap.size) ∧ (∀ b ∈ bss.flatten, b < w4.heap.size) ∧ B ≤ w4.heap.size := by
  obtain ⟨W, bss, hW, ho⟩ := h
  have hs := hd.size
  have h1 := ho.below.size
  obtain ⟨W', hW', hb'⟩ := virt w5 B (by omega)
  have ho5 := ho.rebase (W' := W') (by omega) hb' hd.2.1 (fun b hb hm => by simp at hm; have := (ho.blk_lo b hb).1; omega) (fun b hb hm => by simp at hm; have := (ho.2.2 b hb).1; omega)
  obtain ⟨cs, c1, c2⟩ := ho5.parts
  exact ⟨W', bss, cs, hW', ho5, c1, c2, fun b hb => by have := ho.blk_lo b hb; omega, fun b hb => (ho.2.2 b hb).2, by omega⟩

/-- A drawn schema and a drawn list of facts. -/
def DrewSL (w : World) (S : Value) (len cb : Nat) (e : Ending) (w' : World) : Prop :=
  ∃ (xv : Value) (s : List Int) (v : Value) (l : List AtomD), e = .returned (.tuple #[.agg #[xv], v]) ∧ OwI w.heap.size w' xv s ∧ s.length ≤ 5 ∧ DFs w.heap.size w' v l ∧ l.length ≤ 34 ∧ (∀ x ∈ l, x.2.length ≤ 4) ∧ DSt w w' S len cb

set_option maxRecDepth 100000 in
set_option maxHeartbeats 8000000 in
theorem l5Any_any (w : World) (S : Value) (len cb : Nat) (h : St w S len cb) :
    Calls Try.prog 60 #[.pointer (some ⟨cb, 0, none⟩)] w (DrewSL w S len cb) := by
  have hbl := Lib.hid (fun n w h h0 h1 => l1Below_any n w S len cb h h0 h1)
  have han := Lib.hid (fun w h => l3Any_any w S len cb h)
  have hsf := Lib.hid (fun w base xv l h => l4Safe_any w base xv l h)
  have hdb := Lib.hid (fun w base sv s h hv hc hs => l5Db_any w S len cb base sv s h hv hc hs)
  have haf := Lib.hid (fun w base sv s h hv hc => l5AnyFact_any w S len cb base sv s h hv hc)
  have HS := Lib.hid h
  have hcbw := h.cb_lt
  clear h
  go_enter Try.func60, Try.ntmps60
  go_wp2_with fail
  refine (han.out _ (HS.out.alloc _)).mono ?_
  rintro e w1 ⟨xv, s, rfl, how, _, hl5, hd⟩
  have hsa : (w.alloc (.cells #[.slice none 0 0] 26)).heap.size = w.heap.size + 1 := by simp
  have hne : ∀ b ∈ blk xv, b ≠ w.heap.size := fun b hb => by have := (how.lo b hb).1; omega
  have hxB : ∀ b ∈ blk xv, b < w1.heap.size + 1 := fun b hb => by have := (how.lo b hb).2; omega
  have H1 := Lib.hid (SI.start (cs := #[xv]) (T := 26) (o := 0) (x0 := .slice none 0 0) HS.out hd (how.mono (by omega)) hne rfl (fun h => absurd rfl h))
  have HXB := Lib.hid hxB
  obtain ⟨oa, oc, rfl⟩ := how.shape
  obtain ⟨n, hn⟩ : ∃ n, s.length = n := ⟨_, rfl⟩
  have HN := Lib.hid hn
  rw [hn] at H1 HXB ⊢
  rw [hn] at hl5
  obtain ⟨w2, hw2⟩ : ∃ w2, w2 = w1.alloc (.cells #[.slice oa n oc] 26) := ⟨_, rfl⟩
  obtain ⟨rb, hrb⟩ : ∃ rb, rb = w.heap.size := ⟨_, rfl⟩
  obtain ⟨fb, hfb⟩ : ∃ fb, fb = w1.heap.size := ⟨_, rfl⟩
  obtain ⟨B, hB⟩ : ∃ B, B = w2.heap.size := ⟨_, rfl⟩
  have hw2s : w2.heap.size = w1.heap.size + 1 := by rw [hw2]; simp
  have hRB : rb ≠ fb := by have := hd.size; omega
  have hfB : fb < B := by omega
  have hrB : rb < B := by have := hd.size; omega
  have hcB : cb < B := by have := hd.size; omega
  have hwB : w.heap.size ≤ B := by omega
  rw [← hrb, ← hfb, ← hw2] at H1
  rw [show w1.heap.size + 1 = B by omega] at HXB
  have kf := H1.out.2.1
  have HB := Lib.hid hB
  clear how hd hne hsa hn hxB hw2s
  go_wp2_with fail
  rw [← hw2, ← hrb, ← hfb]
  clear hrb hfb hw2 hB
  refine (hsf.out w2 w.heap.size _ s H1.out.1).mono ?_
  rintro e w3 ⟨xv1, s1, rfl, how1, hs1, hb⟩
  have H3 := Lib.hid (H1.out.below hb)
  have hB3 : B ≤ w3.heap.size := by have := hb.size; have := HB.out; omega
  clear hb kf
  go_wp2_with fail
  refine (hdb.out w3 w.heap.size xv1 s1 H3.out.st how1 hcbw hs1).mono ?_
  rintro e w4 ⟨v, l, rfl, hL, hl8, hl3, hd⟩
  have H4 := Lib.hid (H3.out.dst hd)
  have HL4 := Lib.hid (hL.mono hB3)
  have HZ4 : Hid (∀ x ∈ l, x.2.length ≤ 4) := fun x hx => by have := hl3 x hx; omega
  clear how1 hs1 hL hl3 hd
  go_wp2_with fail
  refine (hbl.out 10 _ H4.out.st (by omega) (by omega)).mono ?_
  rintro e w5 ⟨x, hx0, hx1, rfl, hcur, hg⟩
  have H5 := Lib.hid (H4.out.draw hcur hg)
  have HL5 := Lib.hid (HL4.out.only (Nat.le_refl _) (grownBy_only hg) (fun b hb => by simp at hb; omega))
  clear hcur hg
  have kf := H5.out.2.1
  have kr0 : w5.cell? ⟨rb, 0, none⟩ = some (.slice none 0 0) := by rw [cell_of_row w5 rb 0 _ _ _ H5.out.2.2.2.2.1]; rfl
  have kr1 := frozen_of_row w5 rb 0 _ _ H5.out.2.2.2.2.1
  have hcase : x = 0 ∨ x = 1 ∨ 1 < x := by omega
  rcases hcase with rfl | rfl | hx3
  · go_wp2_with fail
    refine (haf.out w5 w.heap.size _ s H5.out.st H5.out.1 hcbw).mono ?_
    rintro e w6 ⟨r, yv, fl, rfl, hri, hoy, hf1, hf4, hd⟩
    have H6 := Lib.hid (H5.out.dst hd)
    obtain ⟨W, bss, cs, hW, ho, hc1, hc2, hb1, hb2, hb3⟩ := HL5.out.ready hcB hd
    have HO := Lib.hid ho
    have HC1 := Lib.hid hc1
    have HC2 := Lib.hid hc2
    have HOY := Lib.hid hoy
    obtain ⟨ya, yc, rfl⟩ := hoy.shape
    clear hoy hd ho hc1 hc2 kf kr0 kr1
    go_wp2_with (at_builtin; refine wpList_app1D rfl (.tmp 17) (.tmp 21) 27 rfl 29 (.agg #[.int .i64 0, .slice none 0 0]) 2 32 Try.underlying27 info_Fact (by decide) (by decide) (by rfl) v l.length cs rfl HC1.out [.int .i64 r, .slice ya fl.length yc] rfl (by simp [Value.oneCell']) (by first | rfl | (simp; rfl)) (by omega) ?_)
    intro v' w7 hown' ko hbl7
    have HL7 := Lib.hid (DFs.app (base := w5.heap.size) HO.out HC1.out HC2.out HOY.out (fun b hb => (hb1 b hb).2) hb2 hri hown' ko (fun b hb => (hbl7 b hb).imp id (fun h => by simpa using h)) (by omega))
    rw [hW] at HL7
    have HI7 := Lib.hid (H6.out.past ko (fun b hb => (hb1 b hb).1) HXB.out hfB hrB hwB)
    clear hown' ko hbl7
    have kf := HI7.out.2.1
    have kr0 : w7.cell? ⟨rb, 0, none⟩ = some (.slice none 0 0) := by rw [cell_of_row w7 rb 0 _ _ _ HI7.out.2.2.2.2.1]; rfl
    have kr1 := frozen_of_row w7 rb 0 _ _ HI7.out.2.2.2.2.1
    go_wp2_with fail
    refine bodyPost_ret (v := .tuple #[.agg #[.slice oa n oc], v']) (by simp [results, Try.results60, go_sem, kr0]) rfl ?_
    obtain ⟨g1, g2⟩ := HI7.out.fin (OnlyAt.setCell _ rb 0 (.slice oa n oc))
    have g3 := HL7.out.only hwB (OnlyAt.setCell _ rb 0 (.slice oa n oc)) (fun b hb => by simp at hb; omega)
    exact ⟨_, s, _, _, rfl, g1, by rw [HN.out]; exact hl5, g3, by simp; omega, fun x hx => (List.mem_append.1 hx).elim (HZ4.out x) (fun hx => by simp at hx; rw [hx]; exact hf4), g2⟩
  · go_wp2_with fail
    clear kf kr0 kr1
    go_loopw [5, 6] (fun ov iv wr => ∃ (i : Nat) (l : List AtomD), iv = .int .i64 i ∧ i ≤ 26 ∧ l.length ≤ 8 + i ∧ Hid (∀ x ∈ l, x.2.length ≤ 4) ∧ Hid (DFs B wr ov l) ∧ Hid (SI w (.cells #[.slice none 0 0] 26 (0, 0)) (.slice none 0 0) rb fb 0 wr (.slice oa n oc) s S len cb)) (fun _ iv _ => 26 - (intOf iv).toNat)
    case atStart => exact ⟨0, l, rfl, by omega, by omega, HZ4, HL5, H5⟩
    case round =>
      clear HZ4 HL5 H5 hl8
      obtain ⟨i, l, rfl, hi, hli, HZ, HL, HI⟩ := hrel
      obtain ⟨ov, hov⟩ : ∃ ov, ov = u5 := ⟨_, rfl⟩
      subst hov
      by_cases hlt : i < 26
      · obtain ⟨W, bss, cs, hW, ho, hc1, hc2, hb1, hb2, hb3⟩ := HL.out.ready hcB ((DSt.start HI.out.st).below (below_alloc wr (.cells #[.int .i64 50, .int .i64 i] 3)))
        have HO := Lib.hid ho
        have HC1 := Lib.hid hc1
        have HC2 := Lib.hid hc2
        have H6 := Lib.hid (HI.out.below (below_alloc wr (.cells #[.int .i64 50, .int .i64 i] 3)))
        have HOY : Hid (OwI wr.heap.size (wr.alloc (.cells #[.int .i64 50, .int .i64 i] 3)) (.slice (some ⟨wr.heap.size, 0, none⟩) 2 2) [50, (i : Int)]) := OwI.lit wr.heap.size wr [50, (i : Int)] (Nat.le_refl _) (by simp [maxLen]) (fun x hx => by simp at hx; unfold inI; omega)
        clear ho hc1 hc2
        go_wp2_with (at_builtin; refine wpList_app1D rfl (.tmp 29) (.tmp 33) 27 rfl 29 (.agg #[.int .i64 0, .slice none 0 0]) 2 32 Try.underlying27 info_Fact (by decide) (by decide) (by rfl) ov l.length cs rfl HC1.out [.int .i64 0, .slice (some ⟨wr.heap.size, 0, none⟩) 2 2] rfl (by simp [Value.oneCell']) (by first | rfl | (simp; rfl)) (by omega) ?_)
        intro v' w7 hown' ko hbl7
        have HL7 := Lib.hid (DFs.app (base := wr.heap.size) HO.out HC1.out HC2.out HOY.out (fun b hb => (hb1 b hb).2) hb2 (by unfold inI; omega) hown' ko (fun b hb => (hbl7 b hb).imp id (fun h => by simpa using h)) (by omega))
        rw [hW] at HL7
        have HI7 := Lib.hid (H6.out.past ko (fun b hb => (hb1 b hb).1) HXB.out hfB hrB hwB)
        clear hown' ko hbl7
        have HZ7 : Hid (∀ x ∈ l ++ [((0 : Int), [50, (i : Int)])], x.2.length ≤ 4) := fun x hx => (List.mem_append.1 hx).elim (HZ.out x) (fun hx => by simp at hx; rw [hx]; simp)
        go_wp2_with fail
        exact ⟨⟨i + 1, _, by simp, by omega, by simp; omega, HZ7, HL7, HI7⟩, by simp [intOf]; omega⟩
      · obtain rfl : i = 26 := by omega
        have kf := HI.out.2.1
        have kr0 : wr.cell? ⟨rb, 0, none⟩ = some (.slice none 0 0) := by rw [cell_of_row wr rb 0 _ _ _ HI.out.2.2.2.2.1]; rfl
        have kr1 := frozen_of_row wr rb 0 _ _ HI.out.2.2.2.2.1
        go_wp2_with fail
        refine bodyPost_ret (v := .tuple #[.agg #[.slice oa n oc], ov]) (by simp [results, Try.results60, go_sem, kr0]) rfl ?_
        obtain ⟨g1, g2⟩ := HI.out.fin (OnlyAt.setCell _ rb 0 (.slice oa n oc))
        have g3 := HL.out.only hwB (OnlyAt.setCell _ rb 0 (.slice oa n oc)) (fun b hb => by simp at hb; omega)
        exact ⟨_, s, _, _, rfl, g1, by rw [HN.out]; exact hl5, g3, by omega, HZ.out, g2⟩
  · have p0 : decide (x = 0) = false := decide_eq_false (by omega)
    have p1 : decide (x = 1) = false := decide_eq_false (by omega)
    have p0' : (x == 0) = false := by simp; omega
    have p1' : (x == 1) = false := by simp; omega
    go_wp2_with fail
    refine bodyPost_ret (v := .tuple #[.agg #[.slice oa n oc], v]) (by simp [results, Try.results60, go_sem, kr0]) rfl ?_
    obtain ⟨g1, g2⟩ := H5.out.fin (OnlyAt.setCell _ rb 0 (.slice oa n oc))
    have g3 := HL5.out.only hwB (OnlyAt.setCell _ rb 0 (.slice oa n oc)) (fun b hb => by simp at hb; omega)
    exact ⟨_, s, _, _, rfl, g1, by rw [HN.out]; exact hl5, g3, by omega, HZ4.out, g2⟩
end Go.Proofs.Ytcfohmcfbjidnaa
