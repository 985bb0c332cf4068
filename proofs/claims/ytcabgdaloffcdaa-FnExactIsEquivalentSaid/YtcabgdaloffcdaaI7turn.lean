/- The search of chapter 7's program: turn, turnAll. -/
import Derived.Test.YtcabgdaloffcdaaI7st
import Derived.Test.YtcabgdaloffcdaaApp1D
namespace Go.Proofs.Ytcabgdaloffcdaa
open Go Go.Sort Go.RowKit
set_option linter.unusedVariables false

theorem apM_set {m : List Int} {k : Nat} {u : Int} (hk : k < m.length) (hu : u ≠ -1000) : apM (m.set k u) (k : Int) = u := by
  rw [apM_at (by simpa using hk), getD_set7 _ _ _ _ hk, if_pos rfl, if_neg hu]
/-- The state behind: the mapping's cell k set, k listed. -/
theorem MS.step {W0 w w2 w3 : World} {X MB : Nat} {av mv v' : Value} {m mp : List Int} (h : MS W0 w X MB av mv m mp) {k : Nat} {u : Int} (hk : k < 20) (hui : inI u)
    (hB : Built .i64 3 W0 w2 v' (mp ++ [(k : Int)])) (ko : OnlyAt (blk mv) (w.setCell ⟨MB, k, none⟩ (.int .i64 u)) w2) (hbl : ∀ b ∈ blk v', b ∈ blk mv ∨ (w.setCell ⟨MB, k, none⟩ (.int .i64 u)).heap.size ≤ b) (hml : mp.length + 1 ≤ 1000000) (e3 : w3 = w2.setCell ⟨X, 2, none⟩ v') :
    MS W0 w3 X MB av v' (m.set k u) (mp ++ [(k : Int)]) := by
  subst e3
  obtain ⟨hm1, hm2⟩ := h.mb
  have hlt := h.lt
  have hsz : (w.setCell ⟨MB, k, none⟩ (.int .i64 u)).heap.size = w.heap.size := by simp [World.setCell]
  have hsz2 := ko.size
  rw [hsz] at hsz2 hbl
  have o1 : OnlyAt [MB] w (w.setCell ⟨MB, k, none⟩ (.int .i64 u)) := OnlyAt.setCell _ _ _ _
  have o3 : OnlyAt [X] w2 (w2.setCell ⟨X, 2, none⟩ v') := OnlyAt.setCell _ _ _ _
  have x0 := ko.cell h.n2 (o1.cell (by simpa using h.n1) h.c0)
  have x1 := ko.cell h.n2 (o1.cell (by simpa using h.n1) h.c1)
  have x2 := ko.cell h.n2 (o1.cell (by simpa using h.n1) h.c2)
  have xf := ko.frozen (by rw [hsz]; exact hlt) h.n2 (o1.frozen hlt (by simpa using h.n1) h.f2)
  have bm1 : Built .i64 3 W0 (w.setCell ⟨MB, k, none⟩ (.int .i64 u)) (.slice (some ⟨MB, 0, none⟩) 20 20) (m.set k u) := h.bm.store h.len.symm k u
  have bm2 := built_onlyAt bm1 ko (fun b hb => (h.blks b hb).1) (fun b hb => by simp [blk] at hb; subst hb; exact h.n3)
  have hX : ∀ b ∈ blk v', b ≠ X := fun b hb e => by
    subst e
    rcases hbl _ hb with h1 | h1
    · exact h.n2 h1
    · omega
  have hM : ∀ b ∈ blk v', b ≠ MB := fun b hb e => by
    subst e
    rcases hbl _ hb with h1 | h1
    · exact h.n3 h1
    · omega
  refine ⟨?_, ?_, World.cell?_setCell_same _ _ _ x2, by rw [World.frozen?_setCell]; exact xf, built_onlyAt bm2 o3 (fun b hb => by simp at hb; subst hb; exact h.lo) (fun b hb => by simp [blk] at hb; subst hb; simpa using fun e => h.n1 e.symm), built_onlyAt hB o3 (fun b hb => by simp at hb; subst hb; exact h.lo) (fun b hb => by simpa using hX b hb), h.n1, fun hm => hX _ hm rfl, fun hm => hM _ hm rfl, h.lo, Nat.lt_of_lt_of_le hlt (Nat.le_trans hsz2 o3.size), by simpa using h.len, by simp; omega, fun x hx => ?_⟩
  · exact (World.cell?_setCell_other _ _ _ _ (fun e => by cases e)).trans x0
  · exact (World.cell?_setCell_other _ _ _ _ (fun e => by cases e)).trans x1
  · rcases List.mem_or_eq_of_mem_set hx with h1 | h1
    · exact h.mi x h1
    · rw [h1]; exact hui

set_option maxRecDepth 100000 in
set_option maxHeartbeats 4000000 in
theorem iTurn_any (W0 w : World) (X MB : Nat) (av mv : Value) (m mp : List Int) (h : MS W0 w X MB av mv m mp) (t u : Int) (ht : t < 20) (hti : inI t) (hu : u ≠ -1000) (hui : inI u) (hml : mp.length + 1 ≤ 1000000) :
    Calls Try.prog 92 #[.pointer (some ⟨X, 0, none⟩), .int .i64 t, .int .i64 u] w (fun e w' => ∃ mv' mp', e = .returned (.bool (uni1 m t u).2) ∧ MS W0 w' X MB av mv' (uni1 m t u).1 mp' ∧ (∀ m0 mp0, Ext m0 mp0 m mp → Ext m0 mp0 (uni1 m t u).1 mp') ∧ mp'.length ≤ mp.length + 1 ∧ w.heap.size ≤ w'.heap.size) := by
  have H := Lib.hid h
  have HV := Lib.hid (fun w => iIsVar_any t w)
  have c1 := h.c1
  by_cases h0 : t < 0
  · have hv : varB t = false := varB_no (by omega)
    have HA := Lib.hid (fun hi => iApply_any w t (.slice (some ⟨MB, 0, none⟩) 20 20) m hi)
    have hap : apM m t = t := apM_out (.inl h0)
    rw [hap] at HA
    have HI : Hid (Ints w (.slice (some ⟨MB, 0, none⟩) 20 20) m) := Ints.ofBuilt h.bm h.mi
    have HU := Lib.hid (uni1_neg (m := m) (u := u) h0)
    have HBE : Hid ((t == u) = decide (t = u)) := rfl
    rw [hv] at HV
    clear h h0 hv hap ht hti hu hui hml
    go_enter Try.func92, Try.ntmps92
    go_wp2_with fail
    refine (HV.out _).mono ?_
    rintro e w1 ⟨rfl, rfl⟩
    go_wp2_with fail
    refine (HA.out HI.out).mono ?_
    rintro e w2 ⟨rfl, rfl⟩
    go_wp2_with fail
    go_ret
    exact ⟨mv, mp, by rw [HU.out]; rfl, by rw [HU.out]; exact H.out, fun m0 mp0 hx => by rw [HU.out]; exact hx, by omega, Nat.le_refl _⟩
  · obtain ⟨k, rfl⟩ := Int.eq_ofNat_of_zero_le (by omega : 0 ≤ t)
    have hk : k < 20 := by omega
    have hk0 : (0 : Int) ≤ k := by omega
    have hk1 : (k : Int) < 20 := by omega
    have hv : varB (k : Int) = true := varB_yes (by omega) (by omega)
    rw [hv] at HV
    have hcell := (h.len.symm ▸ h.bm : Built .i64 3 W0 w (.slice (some ⟨MB, 0, none⟩) m.length 20) m).cell k (by rw [h.len]; exact hk)
    have hfr := h.bm.frozen h.len.symm k
    by_cases hy : m.getD k 0 = -1000
    · have HU := Lib.hid (uni1_new (m := m) (k := k) (u := u) hy)
      rw [hy] at hcell
      have hst := h.bm.store h.len.symm k u
      have o1 : OnlyAt [MB] w (w.setCell ⟨MB, k, none⟩ (.int .i64 u)) := OnlyAt.setCell _ _ _ _
      have d2 := o1.cell (by simpa using h.n1) h.c2
      have bp1 := built_onlyAt h.bp o1 (fun b hb => by simp at hb; subst hb; exact h.mb.1) (fun b hb => by simp; intro e; subst e; exact h.n3 hb)
      have HBP := Lib.hid bp1
      have d2f := o1.frozen h.lt (by simpa using h.n1) h.f2
      have d1 := o1.cell (by simpa using h.n1) h.c1
      have hmn := h.n2
      have hXlt : X < (w.setCell ⟨MB, k, none⟩ (.int .i64 u)).heap.size := by simp [World.setCell]; exact h.lt
      obtain ⟨w1, hw1⟩ : ∃ w1, w1 = w.setCell ⟨MB, k, none⟩ (.int .i64 u) := ⟨_, rfl⟩
      have HW1 := Lib.hid hw1
      rw [← hw1] at d2 d2f d1 hXlt HBP
      have HK20 := Lib.hid hk
      have HML := Lib.hid hml
      have HEX := Lib.hid (fun m0 mp0 (hx : Ext m0 mp0 m mp) => hx.set (u := u) (k := k) (by rw [h.len]; exact hk) hy)
      have HAP := Lib.hid (apM_set (m := m) (k := k) (u := u) (by rw [h.len]; exact hk) hu)
      have HUI := Lib.hid hui
      have hn5 : mp.length + 1 ≤ 1099511627776 := by omega
      clear h hy hst o1 bp1 hw1 hv ht hti hu hui hml h0
      go_enter Try.func92, Try.ntmps92
      go_wp2_with fail
      refine (HV.out _).mono ?_
      rintro e w9 ⟨rfl, rfl⟩
      go_upto_region 3 with fail
      rw [← HW1.out]
      go_wp2_with (at_builtin; refine wpList_app1D rfl (.tmp 30) (.tmp 32) 22 rfl 3 (.int .i64 0) 1 8 Try.underlying22 info_i64 (by decide) (by decide) (by rfl) mv mp.length (mp.map (Value.int .i64)) rfl HBP.out [.int .i64 (k : Int)] rfl (by simp [Value.oneCell']) (by first | rfl | (simp; rfl)) hn5 ?_)
      intro v' w2 hown' ko hbl
      obtain ⟨vg, vcap, rfl⟩ : ∃ vg vcap, v' = .slice (some ⟨vg, 0, none⟩) (mp.length + 1) vcap := by
        rcases BuiltC.form hown' with ⟨_, h0⟩ | ⟨g, cp, h, _⟩
        · omega
        · exact ⟨g, cp, h⟩
      have y2 := ko.cell hmn d2
      have yf := ko.frozen hXlt hmn d2f
      have hNEW : Built .i64 3 W0 w2 (.slice (some ⟨vg, 0, none⟩) (mp.length + 1) vcap) (mp ++ [(k : Int)]) := Built.ofC hown'
      have HMS : Hid (MS W0 (w2.setCell ⟨X, 2, none⟩ (.slice (some ⟨vg, 0, none⟩) (mp.length + 1) vcap)) X MB av (.slice (some ⟨vg, 0, none⟩) (mp.length + 1) vcap) (m.set k u) (mp ++ [(k : Int)])) := H.out.step HK20.out HUI.out hNEW (by rw [← HW1.out]; exact ko) (by rw [← HW1.out]; exact hbl) HML.out rfl
      have z1 := HMS.out.c1
      have HI : Hid (Ints (w2.setCell ⟨X, 2, none⟩ (.slice (some ⟨vg, 0, none⟩) (mp.length + 1) vcap)) (.slice (some ⟨MB, 0, none⟩) 20 20) (m.set k u)) := Ints.ofBuilt HMS.out.bm HMS.out.mi
      have HA := Lib.hid (iApply_any (w2.setCell ⟨X, 2, none⟩ (.slice (some ⟨vg, 0, none⟩) (mp.length + 1) vcap)) (k : Int) (.slice (some ⟨MB, 0, none⟩) 20 20) (m.set k u) HI.out)
      rw [HAP.out] at HA
      have HSZ : Hid (w.heap.size ≤ (w2.setCell ⟨X, 2, none⟩ (.slice (some ⟨vg, 0, none⟩) (mp.length + 1) vcap)).heap.size) := by
        have h1 := ko.size
        have h2 : w1.heap.size = w.heap.size := by rw [HW1.out]; simp [World.setCell]
        have h3 : (w2.setCell ⟨X, 2, none⟩ (.slice (some ⟨vg, 0, none⟩) (mp.length + 1) vcap)).heap.size = w2.heap.size := by simp [World.setCell]
        unfold Hid; omega
      clear hown' ko hbl hNEW hcell hfr c1
      go_wp2_with fail
      refine HA.out.mono ?_
      rintro e w5 ⟨rfl, rfl⟩
      go_wp2_with fail
      go_ret
      exact ⟨(.slice (some ⟨vg, 0, none⟩) (mp.length + 1) vcap), mp ++ [(k : Int)], by rw [HU.out]; simp, by rw [HU.out]; exact HMS.out, fun m0 mp0 hx => by rw [HU.out]; exact HEX.out m0 mp0 hx, by simp, HSZ.out⟩
    · have HU := Lib.hid (uni1_old (m := m) (k := k) (u := u) hy)
      have hy2 : (m.getD k 0 == -1000) = false := by simpa using hy
      have HA := Lib.hid (iApply_any w (k : Int) (.slice (some ⟨MB, 0, none⟩) 20 20) m (Ints.ofBuilt h.bm h.mi))
      rw [apM_at (by rw [h.len]; exact hk), if_neg hy] at HA
      obtain ⟨y, hyy⟩ : ∃ y, m.getD k 0 = y := ⟨_, rfl⟩
      rw [hyy] at HA HU hy2 hcell
      have HBE : Hid ((y == u) = decide (y = u)) := rfl
      clear h hy hyy hv ht hti hu hui hml h0 hfr
      go_enter Try.func92, Try.ntmps92
      go_wp2_with fail
      refine (HV.out _).mono ?_
      rintro e w9 ⟨rfl, rfl⟩
      go_wp2_with fail
      refine HA.out.mono ?_
      rintro e w5 ⟨rfl, rfl⟩
      go_wp2_with fail
      go_ret
      exact ⟨mv, mp, by rw [HU.out]; rfl, by rw [HU.out]; exact H.out, fun m0 mp0 hx => by rw [HU.out]; exact hx, by omega, Nat.le_refl _⟩

set_option maxRecDepth 100000 in
set_option maxHeartbeats 4000000 in
theorem iTurnAll_any (W0 w : World) (X MB : Nat) (av mv : Value) (m mp : List Int) (h : MS W0 w X MB av mv m mp) (vf vt : Value) (f t : List Int) (hf : Ints W0 vf f) (ht : Ints W0 vt t) (hfl : ∀ x ∈ f, x < 20) (htu : ∀ x ∈ t, x ≠ -1000) (hml : mp.length + f.length ≤ 1000000) :
    Calls Try.prog 69 #[.pointer (some ⟨X, 0, none⟩), vf, vt] w (fun e w' => ∃ mv' mp' m', e = .returned (.bool (decide (f.length = t.length) && (uniF m f t).2)) ∧ MS W0 w' X MB av mv' m' mp' ∧ (f.length = t.length → m' = (uniF m f t).1) ∧ (∀ m0 mp0, Ext m0 mp0 m mp → Ext m0 mp0 m' mp') ∧ mp'.length ≤ mp.length + f.length ∧ w.heap.size ≤ w'.heap.size) := by
  obtain ⟨a, n, cap, rfl, hl, hn, hmx, hcell⟩ := hf.cases
  obtain ⟨a', n', cap', rfl, hl', hn', hmx', hcell'⟩ := ht.cases
  unfold maxLen at hmx hmx'
  have H := Lib.hid h
  by_cases hnn : n = n'
  · subst hnn
    have HC := Lib.hid hcell
    have HC' := Lib.hid hcell'
    have HFL := Lib.hid hfl
    have HTU := Lib.hid htu
    have HL := Lib.hid hl
    have HFI := Lib.hid hf.1
    have HTI := Lib.hid ht.1
    have HML := Lib.hid hml
    have HRE : Hid ((decide (f.length = t.length) && (uniF m f t).2) = (uniF m f t).2) := by unfold Hid; rw [decide_eq_true (by omega)]; rfl
    have HFN : Hid (uniF m f t = uniTo m f t n) := by unfold Hid uniF; rw [hl]
    have hq : ((n : Int) != n) = false := by simp
    clear h hcell hcell' hfl htu hl hl' hf ht hml
    go_enter Try.func69, Try.ntmps69
    go_wp2_with fail
    go_loopw [16] (fun iv wr => ∃ i : Nat, i ≤ n ∧ iv = .int .i64 i ∧ (uniTo m f t i).2 = true ∧ ∃ mv' mp', Hid (MS W0 wr X MB av mv' (uniTo m f t i).1 mp') ∧ Hid (∀ m0 mp0, Ext m0 mp0 m mp → Ext m0 mp0 (uniTo m f t i).1 mp') ∧ mp'.length ≤ mp.length + i ∧ w.heap.size ≤ wr.heap.size) (fun iv _ => n - (intOf iv).toNat)
    case atStart => exact ⟨0, by omega, rfl, rfl, mv, mp, H, fun m0 mp0 h => h, by omega, Nat.le_refl _⟩
    case round =>
      obtain ⟨i, hi, rfl, hyes, mv', mp', HM, HX, hmp, hsz⟩ := hrel
      have hbq := HM.out.below
      by_cases hlt : i < n
      · obtain ⟨b, off, rfl, hbw, hc⟩ := HC.out (by omega)
        obtain ⟨b', off', rfl, hbw', hc'⟩ := HC'.out (by omega)
        have c1 := cellk hbq (hc i hlt)
        have c2 := cellk hbq (hc' i hlt)
        have hi0 : (0 : Int) ≤ i := by omega
        have hi1 : (i : Int) < n := by omega
        have hx20 : f.getD i 0 < 20 := getD_all7 (p := fun x => x < 20) HFL.out (by omega) i
        have hu20 : t.getD i 0 ≠ -1000 := getD_all7 (p := fun x => x ≠ -1000) HTU.out (by omega) i
        have hxi := inI_getD HFI.out i
        have hui := inI_getD HTI.out i
        have HNO := Lib.hid (fun x h => uniF_no (m := m) (f := f) (t := t) (i := i) (x := x) (by rw [HL.out]; exact hlt) hyes h)
        have HYES := Lib.hid (uniTo_yes hyes)
        have HTN := Lib.hid (iTurn_any W0 wr X MB av mv' (uniTo m f t i).1 mp' HM.out (f.getD i 0) (t.getD i 0) hx20 hxi hu20 hui (by have := HML.out; have := HL.out; omega))
        generalize (uniTo m f t i).1 = M at *
        generalize f.getD i 0 = x at *
        generalize t.getD i 0 = u at *
        clear hc hbw hc' hbw' hbq
        go_wp2_with fail
        refine HTN.out.mono ?_
        rintro e w2 ⟨mv2, mp2, rfl, hm2, hx2, hp2, hs2⟩
        have HM2 := Lib.hid hm2
        have HX2 := Lib.hid hx2
        obtain ⟨M2, hM2⟩ : ∃ M2, (uni1 M x u).1 = M2 := ⟨_, rfl⟩
        cases hb : (uni1 M x u).2 with
        | true =>
          have hpair : uni1 M x u = (M2, true) := by rw [← hM2, ← hb]
          have HPR := Lib.hid hpair
          rw [hM2] at HM2 HX2
          clear hm2 hx2 hM2 hb hpair
          go_wp2_with fail
          refine ⟨⟨i + 1, by omega, by simp, by rw [HYES.out, HPR.out], mv2, mp2, by rw [HYES.out, HPR.out]; exact HM2, by rw [HYES.out, HPR.out]; exact fun m0 mp0 h => HX2.out m0 mp0 (HX.out m0 mp0 h), by omega, by omega⟩, by simp [intOf]; omega⟩
        | false =>
          have hpair : uni1 M x u = (M2, false) := by rw [← hM2, ← hb]
          have HN := Lib.hid (HNO.out M2 hpair)
          have HLL := Lib.hid HL.out
          rw [hM2] at HM2 HX2
          clear hm2 hx2 hM2 hb hpair
          go_wp2_with fail
          go_ret
          exact ⟨mv2, mp2, M2, ret_b (by rw [HRE.out, HN.out]), HM2.out, fun _ => by rw [HN.out], fun m0 mp0 h => HX2.out m0 mp0 (HX.out m0 mp0 h), by rw [HL.out]; omega, by omega⟩
      · obtain rfl : i = n := by omega
        have HY := Lib.hid hyes
        clear hbq hyes
        go_wp2_with fail
        go_ret
        exact ⟨mv', mp', _, ret_b (by rw [HRE.out, HFN.out, HY.out]), HM.out, fun _ => by rw [HFN.out], HX.out, by rw [HL.out]; omega, hsz⟩
  · have HRE : Hid ((decide (f.length = t.length) && (uniF m f t).2) = false) := by unfold Hid; rw [decide_eq_false (by omega)]; rfl
    have hq : ((n : Int) != n') = true := by simp; omega
    have HLN : Hid (f.length ≠ t.length) := by unfold Hid; omega
    clear h hcell hcell' hfl htu hl hl' hf ht hml hnn
    go_enter Try.func69, Try.ntmps69
    go_wp2_with fail
    go_ret
    exact ⟨mv, mp, m, ret_b HRE.out.symm, H.out, fun e => absurd e HLN.out, fun m0 mp0 h => h, by omega, Nat.le_refl _⟩
end Go.Proofs.Ytcabgdaloffcdaa
