/- Contracts of drawing functions that answer memory: a database, a fact of any shape. -/
import Derived.Test.YtcfohmcfbjidnaaDr2
import Derived.Test.YtcfohmcfbjidnaaS5m
namespace Go.Proofs.Ytcfohmcfbjidnaa
open Go Go.Sort Go.RowKit
set_option linter.unusedVariables false

theorem OwI.atom {base : Nat} {w : World} {r : Int} {xv : Value} {l : List Int} (h : OwI base w xv l) (hr : inI r) : RdAtom w (.agg #[.int .i64 r, xv]) (r, l) := by
  obtain ⟨a, c, rfl⟩ := h.shape
  exact ⟨a, _, c, rfl, hr, h.ints⟩
theorem DFs.rd {base : Nat} {w : World} {v : Value} {l : List AtomD} (h : DFs base w v l) : RdAtomS w v l := by
  obtain ⟨bs, h1, _⟩ := h.done; exact h1.rd
/-- A drawn list of facts. -/
def DrewL (hi m : Nat) (w : World) (S : Value) (len cb : Nat) (e : Ending) (w' : World) : Prop :=
  ∃ (v : Value) (l : List AtomD), e = .returned v ∧ DFs w.heap.size w' v l ∧ l.length ≤ hi ∧ (∀ x ∈ l, x.2.length ≤ m) ∧ DSt w w' S len cb

set_option maxRecDepth 100000 in
set_option maxHeartbeats 8000000 in
theorem l5Db_any (w : World) (S : Value) (len cb : Nat) (base : Nat) (sv : Value) (s : List Int) (h : St w S len cb) (hv : OwI base w sv s) (hcb : cb < base) (hs : isSchemaB s = true) :
    Calls Try.prog 73 #[.pointer (some ⟨cb, 0, none⟩), .agg #[sv]] w (DrewL 8 3 w S len cb) := by
  have hbl := Lib.hid (fun n w h h0 h1 => l1Below_any n w S len cb h h0 h1)
  have hfa := Lib.hid (fun w h hv => l5Fact_any w S len cb base sv s h hv hcb hs)
  have hpu := Lib.hid (fun w v vf l f h hf hz hz2 hzf => sPut5_inv w v vf l f h hf hz hz2 hzf)
  have HS := Lib.hid h
  have hcbw := h.cb_lt
  obtain ⟨sa, sc, rfl⟩ := hv.shape
  obtain ⟨sn, hsn⟩ : ∃ n, s.length = n := ⟨_, rfl⟩
  rw [hsn] at hv hfa ⊢
  obtain ⟨wB, hwB⟩ : ∃ wB, wB = w.alloc (.cells #[.slice sa sn sc] 26) := ⟨_, rfl⟩
  have HBB : Hid (Below w.heap.size w wB) := by rw [hwB]; exact below_alloc w _
  have hSB : St wB S len cb := by rw [hwB]; exact h.alloc _
  have HSB := Lib.hid hSB
  have hbs : wB.heap.size = w.heap.size + 1 := by rw [hwB]; simp
  have KB : Hid (wB.cell? ⟨w.heap.size, 0, none⟩ = some (.slice sa sn sc)) := by unfold Hid; rw [hwB]; simp
  have HV : Hid (OwI base wB (.slice sa sn sc) s) := hv.below HBB.out
  have HD0 := Lib.hid ((DSt.start hSB).below (below_alloc wB (.cells #[] 29)))
  have HL0 := Lib.hid (DFs.lit wB.heap.size wB (Nat.le_refl _))
  clear h hv hs hSB hsn
  go_enter Try.func73, Try.ntmps73
  go_wp2_with fail
  rw [← hwB]
  refine (hbl.out 9 _ HD0.out.st (by omega) (by omega)).mono ?_
  rintro e w1 ⟨x, hx0, hx1, rfl, hcur, hg⟩
  have HD1 := Lib.hid (HD0.out.draw hcur hg)
  have HL1 : Hid (DFs wB.heap.size w1 (.slice (some ⟨wB.heap.size, 0, none⟩) 0 0) []) := HL0.out.only (Nat.le_refl _) (grownBy_only hg) (fun b hb => by simp at hb; omega)
  obtain ⟨x, rfl⟩ := Int.eq_ofNat_of_zero_le hx0
  obtain ⟨sb, hsb⟩ : ∃ sb, sb = w.heap.size := ⟨_, rfl⟩
  have hsbl : sb < wB.heap.size := by omega
  have hsbc : sb ≠ cb := by omega
  have hcbB : cb < wB.heap.size := by omega
  clear hcur hg HD0 HL0 hx0
  go_wp2_with fail
  rw [← hbs, ← hsb]
  rw [← hsb] at KB
  have HSBE := Lib.hid hsb
  have HBS := Lib.hid hbs
  clear hsb hbs hwB
  go_loopw [5, 6] (fun ov nv wr => ∃ (k : Nat) (l : List AtomD), nv = .int .i64 k ∧ k + l.length ≤ 8 ∧ Hid (∀ x ∈ l, x.2.length ≤ 3) ∧ Hid (DFs wB.heap.size wr ov l) ∧ Hid (DSt wB wr S len cb)) (fun _ nv _ => (intOf nv).toNat)
  case atStart => exact ⟨x, [], rfl, by simp; omega, fun x hx => by simp at hx, HL1, HD1⟩
  case round =>
    obtain ⟨k, l, rfl, hkl, HZ, HL, HD⟩ := hrel
    have kb := HD.out.cell hsbc KB.out
    by_cases hk0 : 0 < k
    · go_wp2_with fail
      refine (hfa.out wr HD.out.st (HV.out.draw hcb HD.out)).mono ?_
      rintro e w3 ⟨r, xv, fl, rfl, hri, how, hl1, hl3, hd⟩
      have HD3 := Lib.hid (HD.out.trans hd)
      have HL3 := Lib.hid (HL.out.draw hcbB hd)
      have HF := Lib.hid (how.atom hri)
      clear kb how hd
      go_wp2_with fail
      refine (hpu.out w3 _ _ l (r, fl) HL3.out.rd HF.out (fun y hy => by have := HZ.out y hy; omega) (by omega) (by show fl.length ≤ 1048576; omega)).mono ?_
      rintro e w4 ⟨v', W, bss, rfl, hs, ho, hb⟩
      have HL4 : Hid (DFs wB.heap.size w4 v' (putF l (r, fl))) := DFs.mono ⟨W, bss, rfl, ho⟩ (by have := HD3.out.size; omega)
      have HD4 := Lib.hid (HD3.out.below hb)
      have HZ4 : Hid (∀ y ∈ putF l (r, fl), y.2.length ≤ 3) := fun y hy => (putF_mem l (r, fl) y hy).elim (HZ.out y) (fun e => by rw [e]; exact hl3)
      have hlen := putF_len l (r, fl)
      clear hs ho hb
      go_wp2_with fail
      exact ⟨⟨k - 1, _, by rw [show ((k : Int) - 1) = ((k - 1 : Nat) : Int) from by omega], by omega, HZ4, HL4, HD4⟩, by simp [intOf]; omega⟩
    · obtain rfl : k = 0 := by omega
      clear kb
      go_wp2_with fail
      go_ret
      exact ⟨_, l, rfl, HL.out.mono (by have := HBB.out.size; omega), by omega, HZ.out, ((DSt.start HS.out).below HBB.out).trans HD.out⟩

/-- The struct's other cell. -/
theorem SI.putR {w0 w : World} {RB : Obj} {x0 : Value} {rb fb : Nat} {xv : Value} {l : List Int} {S : Value} {len cb : Nat} (h : SI w0 RB x0 rb fb 1 w xv l S len cb) (u : Value) : SI w0 RB u rb fb 1 (w.setCell ⟨fb, 0, none⟩ u) xv l S len cb := by
  obtain ⟨h1, h2, h3, h4, h5, h6, h7, h8⟩ := h
  have k := OnlyAt.setCell w fb 0 u
  obtain ⟨c0, f0⟩ := h4 (by omega)
  refine ⟨h1.only k (fun b hm => by simpa using (h6 b hm).1), ?_, by rw [World.frozen?_setCell]; exact h3, fun _ => ⟨World.cell?_setCell_same _ _ _ c0, by rw [World.frozen?_setCell]; exact f0⟩, by rw [k.block rb (heap_lt h5) (by simpa using h7.2.2.2)]; exact h5, h6, ⟨h7.1, Nat.lt_of_lt_of_le h7.2.1 k.size, h7.2.2⟩, h8.only k (fun b hm => by simp at hm; omega)⟩
  rw [World.cell?_setCell_other _ _ _ _ (by intro e; cases e)]; exact h2
/-- A number of the list. -/
theorem SI.set {w0 w : World} {RB : Obj} {x0 : Value} {rb fb o g n c : Nat} {l : List Int} {S : Value} {len cb : Nat} (h : SI w0 RB x0 rb fb o w (.slice (some ⟨g, 0, none⟩) n c) l S len cb) (j : Nat) (y : Int) (hn : l.length = n) (hy : inI y) :
    SI w0 RB x0 rb fb o (w.setCell ⟨g, j, none⟩ (.int .i64 y)) (.slice (some ⟨g, 0, none⟩) n c) (l.set j y) S len cb := by
  obtain ⟨h1, h2, h3, h4, h5, h6, h7, h8⟩ := h
  have k := OnlyAt.setCell w g j (.int .i64 y)
  obtain ⟨hgf, hgr⟩ := h6 g (by simp [blk])
  have hglo := h1.lo g (by simp [blk])
  have hfb : fb ∉ [g] := by simpa using Ne.symm hgf
  have hrb : rb ∉ [g] := by simpa using Ne.symm hgr
  obtain ⟨W, hW, hb⟩ := h1.built
  subst hn
  have hb2 : BuiltC 3 1 W w (.slice (some ⟨g, 0, none⟩) l.length c) l.length (l.map (Value.int .i64)) := hb
  have hb3 := hb2.store j (.int .i64 y)
  rw [← List.map_set] at hb3
  have hb4 : Built .i64 3 W (w.setCell ⟨g, j, none⟩ (.int .i64 y)) (.slice (some ⟨g, 0, none⟩) l.length c) (l.set j y) := by unfold Built; rw [List.length_set]; exact hb3
  exact ⟨OwI.of hb4 (by omega) (fun x hx => (List.mem_or_eq_of_mem_set hx).elim (h1.2.2 x) (fun e => by rw [e]; exact hy)), k.cell hfb h2, k.frozen h7.2.1 hfb h3, fun ho => ⟨k.cell hfb (h4 ho).1, k.frozen h7.2.1 hfb (h4 ho).2⟩, by rw [k.block rb (heap_lt h5) hrb]; exact h5, h6, ⟨h7.1, Nat.lt_of_lt_of_le h7.2.1 k.size, h7.2.2⟩, h8.only k (fun b hm => by simp at hm; omega)⟩

set_option maxRecDepth 100000 in
set_option maxHeartbeats 8000000 in
theorem l5AnyFact_any (w : World) (S : Value) (len cb : Nat) (base : Nat) (sv : Value) (s : List Int) (h : St w S len cb) (hv : OwI base w sv s) (hcb : cb < base) :
    Calls Try.prog 63 #[.pointer (some ⟨cb, 0, none⟩), .agg #[sv]] w (DrewF 1 4 w S len cb) := by
  have hbl := Lib.hid (fun n w h h0 h1 => l1Below_any n w S len cb h h0 h1)
  have hfa := Lib.hid (fun w sv s h hv hs => l5Fact_any w S len cb base sv s h hv hcb hs)
  have hsf := Lib.hid (fun w h => l4Safe_any w base sv s h)
  have hpi := Lib.hid (fun g n xs w h hn0 hn1 hg hx hc hr => l1PickInt_any g n xs w S len cb h hn0 hn1 hg hx hc hr)
  have HS := Lib.hid h
  have hcbw := h.cb_lt
  obtain ⟨sa, sc, rfl⟩ := hv.shape
  obtain ⟨sn, hsn⟩ : ∃ n, s.length = n := ⟨_, rfl⟩
  rw [hsn] at hv hsf ⊢
  obtain ⟨wB, hwB⟩ : ∃ wB, wB = w.alloc (.cells #[.slice sa sn sc] 26) := ⟨_, rfl⟩
  have HBB : Hid (Below w.heap.size w wB) := by rw [hwB]; exact below_alloc w _
  have hSB : St wB S len cb := by rw [hwB]; exact h.alloc _
  have HSB := Lib.hid hSB
  have hbs : wB.heap.size = w.heap.size + 1 := by rw [hwB]; simp
  have hba := below_alloc wB (.cells #[.int .i64 0, .slice none 0 0] 29)
  have HBA := Lib.hid hba
  have KB : Hid ((wB.alloc (.cells #[.int .i64 0, .slice none 0 0] 29)).cell? ⟨w.heap.size, 0, none⟩ = some (.slice sa sn sc)) := cellk hba (by rw [hwB]; simp)
  have HV : Hid (OwI base (wB.alloc (.cells #[.int .i64 0, .slice none 0 0] 29)) (.slice sa sn sc) s) := (hv.below HBB.out).below hba
  have HD0 := Lib.hid (DSt.start (hSB.alloc (.cells #[.int .i64 0, .slice none 0 0] 29)))
  clear h hv hSB hsn hba
  go_enter Try.func63, Try.ntmps63
  go_wp2_with fail
  rw [← hwB]
  refine (hsf.out _ HV.out).mono ?_
  rintro e w1 ⟨xv, s1, rfl, how, hs1, hb⟩
  have HD1 := Lib.hid (HD0.out.below hb)
  clear hb
  go_wp2_with fail
  refine (hfa.out _ _ s1 HD1.out.st how hs1).mono ?_
  rintro e w2 ⟨r, yv, l, rfl, hri, hoy, hl1, hl3, hd⟩
  have H1 := Lib.hid (SI.start (cs := #[.int .i64 r, yv]) (T := 29) (o := 1) (x0 := .int .i64 r) HSB.out (HD1.out.trans hd) (hoy.mono (by have := HD1.out.size; simp at this; omega)) (fun b hb => by have := (hoy.lo b hb).1; have := HD1.out.size; simp at this; omega) rfl (fun _ => rfl))
  obtain ⟨oa, oc, rfl⟩ := hoy.shape
  obtain ⟨n, hn⟩ : ∃ n, l.length = n := ⟨_, rfl⟩
  have HN := Lib.hid hn
  rw [hn] at H1 hl1 hl3 ⊢
  obtain ⟨rb, hrb⟩ : ∃ rb, rb = wB.heap.size := ⟨_, rfl⟩
  obtain ⟨fb, hfb⟩ : ∃ fb, fb = w2.heap.size := ⟨_, rfl⟩
  have hRB : rb ≠ fb := by have := (HD1.out.trans hd).size; simp at this; omega
  have HRI := Lib.hid hri
  rw [← hrb, ← hfb] at H1
  have HBS := Lib.hid hbs
  clear how hoy hd hn hri HD1 HD0 hbs hwB
  go_wp2_with fail
  rw [← hfb, show w.heap.size + 1 = rb by rw [hrb, HBS.out]]
  clear hrb hfb
  refine (hbl.out 10 _ H1.out.st (by omega) (by omega)).mono ?_
  rintro e w3 ⟨x, hx0, hx1, rfl, hcur, hg⟩
  have HX := Lib.hid (H1.out.draw hcur hg)
  have hcb2 : cb < w3.heap.size := HX.out.st.cb_lt
  clear hcur hg H1
  have kf := HX.out.2.1
  have kf1 := HX.out.2.2.1
  obtain ⟨kr, kr'⟩ := HX.out.2.2.2.1 (by omega)
  have hrow := HX.out.2.2.2.2.1
  have q0 : w3.cell? ⟨rb, 0, none⟩ = some (.int .i64 0) := by rw [cell_of_row w3 rb 0 _ _ _ hrow]; rfl
  have q1 : w3.cell? ⟨rb, 1, none⟩ = some (.slice none 0 0) := by rw [cell_of_row w3 rb 1 _ _ _ hrow]; rfl
  have f0 := frozen_of_row w3 rb 0 _ _ hrow
  have f1 := frozen_of_row w3 rb 1 _ _ hrow
  clear hrow
  have hcase : x = 0 ∨ x = 1 ∨ x = 2 ∨ 2 < x := by omega
  rcases hcase with rfl | rfl | rfl | hx3
  · go_wp2_with fail
    have qa := cellk (below_alloc w3 (.cells #[.int .i64 0, .int .i64 99, .int .i64 100, .int .i64 (-1)] 3)) kf
    go_region_law (first
      | (refine step_app1D (by rfl) (.tmp 15) (.tmp 19) 24 (by rfl) 3 (.int .i64 0) 1 8 Try.underlying24 info_intD (by decide) (by decide) (by rfl) (.slice oa n oc) n (l.map (Value.int .i64)) (by rfl) (BuiltC.grow HBT.out ((Below.refl _ _).alloc (Nat.le_refl _) _)) w4.heap.size [.int .i64 y] (by rfl) (by simp [Value.oneCell']) (by rfl) (heap_alloc_new w4 _) (by omega) ?_; intro g' cap' w5 hown' ko hbl; have HI5 := Lib.hid ((HI4.out.below (below_alloc w4 _)).step hWs (by rw [HN.out]; exact hown') ko (fun b hb => (hbl b hb).imp id (fun e => by rw [e]; exact Nat.le_refl _)) ⟨hy0, hy1⟩); obtain ⟨z1, z2, z3, z6⟩ := (HI4.out.below (below_alloc w4 _)).after ko; obtain ⟨z6, z7⟩ := z6 (by omega); have z4 : w5.cell? ⟨rb, 0, none⟩ = some (.int .i64 0) := by { rw [cell_of_row _ rb 0 _ _ _ z3]; rfl }; have z8 : w5.cell? ⟨rb, 1, none⟩ = some (.slice none 0 0) := by { rw [cell_of_row _ rb 1 _ _ _ z3]; rfl }; have z5 := frozen_of_row _ rb 0 _ _ z3; have z9 := frozen_of_row _ rb 1 _ _ z3)
      | (go_simp; go_at_call 77; refine (hpi.out _ 4 [0, 99, 100, -1] _ (HX.out.below ((Below.refl _ _).drew.alloc (Nat.le_refl _) _)).st (by omega) (by omega) (by simp; omega) rfl (heap_alloc_new _ _) (by intro x hx; simp at hx; omega)).mono ?_; rintro e2 w4 ⟨y, hy0, hy1, rfl, hcur, hg⟩; have HI4 := Lib.hid ((HX.out.below ((Below.refl _ _).drew.alloc (Nat.le_refl _) _)).draw hcur hg); obtain ⟨W, hWs, hbt⟩ := HI4.out.1.built; rw [Built, HN.out] at hbt; have HBT := Lib.hid hbt; have qb := HI4.out.2.1; have qc := cellk ((Below.refl w4.heap.size w4).alloc (Nat.le_refl _) (.cells #[.int .i64 y] 3)) qb; clear hcur hg hbt))
    all_goals (go_wp2_with fail)
    all_goals
      refine bodyPost_ret (v := .agg #[.int .i64 r, .slice (some ⟨g', 0, none⟩) (n + 1) cap']) (by simp [results, Try.results63, go_sem, z4, z8]) rfl ?_
      obtain ⟨g1, g2⟩ := HI5.out.fin (w' := (World.setCell _ ⟨rb, 0, none⟩ (.int .i64 r)).setCell ⟨rb, 1, none⟩ (.slice (some ⟨g', 0, none⟩) (n + 1) cap')) ((OnlyAt.setCell _ _ _ _).same (OnlyAt.setCell _ _ _ _))
      have hlen := HN.out
      have hsz := HBB.out.size
      exact ⟨r, _, _, rfl, HRI.out, g1.mono hsz, by simp, by simp; omega, ((DSt.start HS.out).below HBB.out).trans g2⟩
  · go_wp2_with fail
    refine (hpi.out _ 3 [-1, 3, 4] _ (HX.out.below (below_alloc _ _)).st (by omega) (by omega) (by simp; omega) rfl (heap_alloc_new _ _) (by intro x hx; simp at hx; omega)).mono ?_
    rintro e2 w4 ⟨y, hy0, hy1, rfl, hcur, hg⟩
    have HI4 := Lib.hid ((HX.out.below (below_alloc _ _)).draw hcur hg)
    have HI5 := Lib.hid (HI4.out.putR (.int .i64 y))
    clear hcur hg kf kf1 kr kr' q0 q1 f0 f1
    have kf := HI4.out.2.1
    obtain ⟨kr, kr'⟩ := HI4.out.2.2.2.1 (by omega)
    have hrow := HI4.out.2.2.2.2.1
    have q0 : w4.cell? ⟨rb, 0, none⟩ = some (.int .i64 0) := by rw [cell_of_row w4 rb 0 _ _ _ hrow]; rfl
    have q1 : w4.cell? ⟨rb, 1, none⟩ = some (.slice none 0 0) := by rw [cell_of_row w4 rb 1 _ _ _ hrow]; rfl
    have f0 := frozen_of_row w4 rb 0 _ _ hrow
    have f1 := frozen_of_row w4 rb 1 _ _ hrow
    clear hrow
    go_wp2_with fail
    refine bodyPost_ret (v := .agg #[.int .i64 y, .slice oa n oc]) (by simp [results, Try.results63, go_sem, q0, q1]) rfl ?_
    obtain ⟨g1, g2⟩ := HI5.out.fin (w' := (World.setCell _ ⟨rb, 0, none⟩ (.int .i64 y)).setCell ⟨rb, 1, none⟩ (.slice oa n oc)) ((OnlyAt.setCell _ _ _ _).same (OnlyAt.setCell _ _ _ _))
    have hlen := HN.out
    have hsz := HBB.out.size
    exact ⟨y, _, _, rfl, ⟨hy0, hy1⟩, g1.mono hsz, by omega, by omega, ((DSt.start HS.out).below HBB.out).trans g2⟩
  · obtain ⟨g, rfl, hg0, hnc, hcm, hcell⟩ := HX.out.1.at HN.out (by omega)
    have hn0 : (0 : Int) < n := by omega
    have hn1 : 0 < n := by omega
    have hn2 : n ≠ 0 := by omega
    obtain ⟨hgf, hgr⟩ := HX.out.2.2.2.2.2.1 g (by simp [blk])
    go_wp2_with fail
    have qa := cellk (below_alloc w3 (.cells #[.int .i64 99, .int .i64 100, .int .i64 (-1)] 3)) kf
    have HFZ : Hid (∀ w' l', SI wB (.cells #[.int .i64 0, .slice none 0 0] 29 (0, 0)) (.int .i64 r) rb fb 1 w' (.slice (some ⟨g, 0, none⟩) n oc) l' S len cb → w'.frozen? ⟨g, 0, none⟩ = false) := fun w' l' h => by
      rcases h.1.1.2 with ⟨e, _⟩ | ⟨g', cap, cur, e, _, hg, _⟩
      · cases e
      · cases e; exact frozen_of_row w' _ 0 _ _ hg
    go_region_law (first
      | (go_simp; go_at_call 77; refine (hpi.out _ 3 [99, 100, -1] _ (HX.out.below ((Below.refl _ _).drew.alloc (Nat.le_refl _) _)).st (by omega) (by omega) (by simp; omega) rfl (heap_alloc_new _ _) (by intro x hx; simp at hx; omega)).mono ?_; rintro e2 w4 ⟨y, hy0, hy1, rfl, hcur, hg⟩; have HI4 := Lib.hid ((HX.out.below ((Below.refl _ _).drew.alloc (Nat.le_refl _) _)).draw hcur hg); obtain ⟨_, hG, _, _, _, hc4⟩ := HI4.out.1.at HN.out (by omega); cases hG; have qg := hc4 0 (by omega); have qz := HFZ.out _ _ HI4.out; have qb := HI4.out.2.1; obtain ⟨qr, qr'⟩ := HI4.out.2.2.2.1 (by omega); have z3 := HI4.out.2.2.2.2.1; have z4 : w4.cell? ⟨rb, 0, none⟩ = some (.int .i64 0) := by { rw [cell_of_row _ rb 0 _ _ _ z3]; rfl }; have z8 : w4.cell? ⟨rb, 1, none⟩ = some (.slice none 0 0) := by { rw [cell_of_row _ rb 1 _ _ _ z3]; rfl }; have z5 := frozen_of_row _ rb 0 _ _ z3; have z9 := frozen_of_row _ rb 1 _ _ z3; have HI5 := Lib.hid (HI4.out.set 0 y HN.out ⟨hy0, hy1⟩); clear hcur hg hc4 z3))
    all_goals (go_wp2_with fail)
    all_goals
      refine bodyPost_ret (v := .agg #[.int .i64 r, .slice (some ⟨g, 0, none⟩) n oc]) (by simp [results, Try.results63, go_sem, z4, z8]) rfl ?_
      obtain ⟨g1, g2⟩ := HI5.out.fin (w' := (World.setCell _ ⟨rb, 0, none⟩ (.int .i64 r)).setCell ⟨rb, 1, none⟩ (.slice (some ⟨g, 0, none⟩) n oc)) ((OnlyAt.setCell _ _ _ _).same (OnlyAt.setCell _ _ _ _))
      have hlen := HN.out
      have hsz := HBB.out.size
      exact ⟨r, _, _, rfl, HRI.out, g1.mono hsz, by simp; omega, by simp; omega, ((DSt.start HS.out).below HBB.out).trans g2⟩
  · have p0 : decide (x = 0) = false := decide_eq_false (by omega)
    have p1 : decide (x = 1) = false := decide_eq_false (by omega)
    have p2 : decide (x = 2) = false := decide_eq_false (by omega)
    have p0' : (x == 0) = false := by simp; omega
    have p1' : (x == 1) = false := by simp; omega
    have p2' : (x == 2) = false := by simp; omega
    go_wp2_with fail
    refine bodyPost_ret (v := .agg #[.int .i64 r, .slice oa n oc]) (by simp [results, Try.results63, go_sem, q0, q1]) rfl ?_
    obtain ⟨g1, g2⟩ := HX.out.fin (w' := (World.setCell _ ⟨rb, 0, none⟩ (.int .i64 r)).setCell ⟨rb, 1, none⟩ (.slice oa n oc)) ((OnlyAt.setCell _ _ _ _).same (OnlyAt.setCell _ _ _ _))
    have hlen := HN.out
    have hsz := HBB.out.size
    exact ⟨r, _, _, rfl, HRI.out, g1.mono hsz, by omega, by omega, ((DSt.start HS.out).below HBB.out).trans g2⟩
end Go.Proofs.Ytcfohmcfbjidnaa
