/- Contracts of chapter 9's spec: IsRedundant, IsMinimal, MinimizeQuery. -/
import Derived.Test.YtdbeogmabcbdoaaS9b
namespace Go.Proofs.Ytdbeogmabcbdoaa
open Go Go.Sort Go.RowKit
set_option linter.unusedVariables false

theorem woQ_sz (s : List Int) (q : QueryD) (i : Int) : sizeQuery (woQ s q i) ≤ sizeQuery q := by
  have h1 := woQ_size s q i
  have h2 : (woQ s q i).1 = q.1 := by unfold woQ; split <;> rfl
  unfold sizeQuery; rw [h2]; omega
theorem woQ_len (s : List Int) (q : QueryD) (i : Int) : (woQ s q i).2.length ≤ q.2.length := by
  unfold woQ; split
  · exact (cutA_sub _ _).length_le
  · exact Nat.le_refl _
theorem red_len {s : List Int} {q : QueryD} {i : Nat} (h : redB s q (i : Int) = true) : (woQ s q (i : Int)).2.length + 1 = q.2.length := by
  obtain ⟨h1, h2, h3, _⟩ := redB_in h
  rw [h3]
  exact cutA_len h2
theorem red_min {s : List Int} {q : QueryD} {i : Nat} (h : redB s q (i : Int) = true) (hf : ∀ j < i, redB s q (j : Int) = false) : minQ s (woQ s q (i : Int)) = minQ s q := by
  obtain ⟨h1, h2, h3, _⟩ := redB_in h
  rw [h3, Int.toNat_natCast]
  rw [Int.toNat_natCast] at h2
  exact (minQ_step (frN_some h2 hf h)).symm
theorem minB_some {s : List Int} {q : QueryD} {i : Nat} (hi : i < q.2.length) (h : redB s q (i : Int) = true) : minB s q = false := by
  unfold minB
  cases hf : frN s q with
  | some k => simp
  | none =>
    unfold frN at hf
    rw [List.find?_eq_none] at hf
    have := hf i (List.mem_range.2 hi)
    simp [h] at this
theorem minB_none {s : List Int} {q : QueryD} (h : ∀ j < q.2.length, redB s q (j : Int) = false) : minB s q = fineB s q 4 := by
  unfold minB; rw [frN_none h]; simp
theorem SlB.set {w : World} {B o : Nat} {u : Value} {a : Option Addr} {n c : Nat} (h : SlB w B) (hc : w.cell? ⟨B, o, none⟩ = some u) : SlB (w.setCell ⟨B, o, none⟩ (.slice a n c)) B := by
  intro o' x hx
  by_cases he : o' = o
  · subst he
    rw [World.cell?_setCell_same _ _ _ hc] at hx
    cases hx; exact ⟨_, _, _, rfl⟩
  · rw [World.cell?_setCell_other _ _ _ _ (by intro e; cases e; exact he rfl)] at hx
    exact h _ _ hx

set_option maxHeartbeats 4000000 in
theorem sRedundant_any (w : World) (vs v : Value) (s : List Int) (d : QueryD) (i : Int) (hvs : RdSchema w vs s) (h : RdQuery w v d) (hz : sizeQuery d ≤ 1048576) :
    Calls Try.prog 19 #[vs, v, .int .i64 i] w (GaveBool w (redB s d i)) := by
  have hz1 : d.1.length ≤ 1048576 := by unfold sizeQuery at hz; omega
  have hz2 : sizeAtomS d.2 ≤ 1048576 := by unfold sizeQuery at hz; omega
  have HWO := Lib.hid (fun W (hb : Below w.heap.size w W) => sWithout_any W vs v s d i (RdSchema.below hvs hb) (RdQuery.below h hb) hz1 hz2)
  have HEQ := Lib.hid (fun W x (hb : Below w.heap.size w W) (hx : RdQuery W x (woQ s d i)) => sEquivalent_any W vs x v s (woQ s d i) d (RdSchema.below hvs hb) hx (RdQuery.below h hb) (Nat.le_trans (woQ_size s d i) hz2) hz2)
  obtain ⟨B, hB⟩ : ∃ B, B = redB s d i := ⟨_, rfl⟩
  rw [← hB]
  unfold redB at hB
  obtain ⟨p, hp⟩ : ∃ p, woB s d i = p := ⟨_, rfl⟩
  obtain ⟨q, hq⟩ : ∃ q, (conB8 s (woQ s d i) d && conB8 s d (woQ s d i)) = q := ⟨_, rfl⟩
  rw [hp, hq] at hB
  rw [hp] at HWO
  rw [hq] at HEQ
  have HBE := Lib.hid hB
  clear hB hp hq
  obtain ⟨sa, sn, sc, rfl, hs⟩ := hvs
  obtain ⟨a0, n0, c0, a, n, c, rfl, hi, ha⟩ := h
  have hb0 : ∀ a b, Below w.heap.size w ((w.alloc a).alloc b) := fun a b => ((Below.refl _ _).alloc (Nat.le_refl _) _).alloc (by simp) _
  have HB0 := Lib.hid hb0
  clear hs hi ha hz hz1 hz2 hb0
  go_enter Try.func19, Try.ntmps19
  go_wp2_with fail
  obtain ⟨W, hW⟩ : ∃ W, W = (w.alloc (.cells #[.slice sa sn sc] 35)).alloc (.cells #[.slice a0 n0 c0, .slice a n c] 32) := ⟨_, rfl⟩
  have HBW : Hid (Below w.heap.size w W) := by rw [hW]; exact HB0.out _ _
  have q0 : W.cell? ⟨w.heap.size, 0, none⟩ = some (.slice sa sn sc) := by rw [hW]; simp
  have q1 : W.cell? ⟨w.heap.size + 1, 0, none⟩ = some (.slice a0 n0 c0) := by rw [hW]; simp
  have q2 : W.cell? ⟨w.heap.size + 1, 1, none⟩ = some (.slice a n c) := by rw [hW]; simp
  rw [← hW]
  clear hW
  refine (HWO.out _ HBW.out).mono ?_
  rintro e w1 ⟨xa, xn, xc, ya, yn, yc, rfl, hx, hbb⟩
  have hal := below_alloc w1 (.cells #[.slice xa xn xc, .slice ya yn yc] 32)
  replace q0 := cellk (bnext hbb hal) q0
  replace q1 := cellk (bnext hbb hal) q1
  replace q2 := cellk (bnext hbb hal) q2
  have HB1 := Lib.hid (bnext (bnext HBW.out hbb) hal)
  have HX := Lib.hid (hx.below hal)
  clear hbb hx hal
  cases p with
  | false =>
    go_wp2_with fail
    go_ret
    exact ⟨ret_b HBE.out.symm, HB1.out⟩
  | true =>
    go_wp2_with fail
    refine (HEQ.out _ _ HB1.out HX.out).mono ?_
    rintro e w2 ⟨rfl, hbb⟩
    have HB2 := Lib.hid (bnext HB1.out hbb)
    clear hbb
    go_wp2_with fail
    go_ret
    exact ⟨ret_b HBE.out.symm, HB2.out⟩

set_option maxHeartbeats 4000000 in
theorem sIsMinimal_any (w : World) (vs v : Value) (s : List Int) (d : QueryD) (hvs : RdSchema w vs s) (h : RdQuery w v d) (hz : sizeQuery d ≤ 1048576) :
    Calls Try.prog 23 #[vs, v] w (GaveBool w (minB s d)) := by
  have hz2 : sizeAtomS d.2 ≤ 1048576 := by unfold sizeQuery at hz; omega
  have HQ := Lib.hid (fun W (hb : Below w.heap.size w W) => sIsQuery_any W vs v s d (RdSchema.below hvs hb) (RdQuery.below h hb) hz2)
  have HR := Lib.hid (fun W (i : Int) (hb : Below w.heap.size w W) => sRedundant_any W vs v s d i (RdSchema.below hvs hb) (RdQuery.below h hb) hz)
  obtain ⟨sa, sn, sc, rfl, hs⟩ := hvs
  obtain ⟨a0, n0, c0, a, n, c, rfl, hi, ha⟩ := h
  obtain ⟨hl, hn, hm, hcell⟩ := ha.at
  unfold maxLen at hm
  have HL := Lib.hid hl
  have hln : n ≤ 1048576 := by unfold sizeAtomS at hz2; omega
  have hb0 : ∀ a b, Below w.heap.size w ((w.alloc a).alloc b) := fun a b => ((Below.refl _ _).alloc (Nat.le_refl _) _).alloc (by simp) _
  have HB0 := Lib.hid hb0
  clear hs hi ha hcell hl hb0 hz hz2
  go_enter Try.func23, Try.ntmps23
  go_wp2_with fail
  obtain ⟨W, hW⟩ : ∃ W, W = (w.alloc (.cells #[.slice sa sn sc] 35)).alloc (.cells #[.slice a0 n0 c0, .slice a n c] 32) := ⟨_, rfl⟩
  have HBW : Hid (Below w.heap.size w W) := by rw [hW]; exact HB0.out _ _
  have Q0 : Hid (W.cell? ⟨w.heap.size, 0, none⟩ = some (.slice sa sn sc)) := by rw [hW]; exact Lib.hid (by simp)
  have Q1 : Hid (W.cell? ⟨w.heap.size + 1, 0, none⟩ = some (.slice a0 n0 c0)) := by rw [hW]; exact Lib.hid (by simp)
  have Q2 : Hid (W.cell? ⟨w.heap.size + 1, 1, none⟩ = some (.slice a n c)) := by rw [hW]; exact Lib.hid (by simp)
  rw [← hW]
  clear hW
  go_loopw [5] (fun iv wr => ∃ i : Nat, i ≤ n ∧ iv = .int .i64 i ∧ Hid (∀ j < i, redB s d (j : Int) = false) ∧ Hid (Below W.heap.size W wr)) (fun iv _ => n - (intOf iv).toNat)
  case atStart => exact ⟨0, by omega, rfl, Lib.hid (fun j hj => by omega), Lib.hid (Below.refl _ _)⟩
  case round =>
    obtain ⟨i, hi, rfl, HF, HB⟩ := hrel
    have q0 := cellk HB.out Q0.out
    have q1 := cellk HB.out Q1.out
    have q2 := cellk HB.out Q2.out
    have HBr := Lib.hid (bnext HBW.out HB.out)
    by_cases hlt : i < n
    · have hr := HR.out wr (i : Int) HBr.out
      obtain ⟨p, hp⟩ : ∃ p, redB s d (i : Int) = p := ⟨_, rfl⟩
      rw [hp] at hr
      have HP := Lib.hid hp
      have HRC := Lib.hid hr
      clear hp hr
      go_wp2_with fail
      refine HRC.out.mono ?_
      rintro e w1 ⟨rfl, hbb⟩
      have HB1 := Lib.hid (bnext HB.out hbb)
      clear hbb q0 q1 q2
      cases p with
      | true =>
        have HN : Hid (minB s d = false) := minB_some (by rw [HL.out]; exact hlt) HP.out
        go_wp2_with fail
        go_ret
        exact ⟨ret_b HN.out.symm, bnext HBW.out HB1.out⟩
      | false =>
        go_wp2_with fail
        exact ⟨⟨i + 1, by omega, by simp, Lib.hid (fun j hj => by
          by_cases h : j < i
          · exact HF.out j h
          · obtain rfl : j = i := by omega
            exact HP.out), HB1⟩, by simp [intOf]; omega⟩
    · obtain rfl : i = n := by omega
      have HN : Hid (minB s d = fineB s d 4) := minB_none (by rw [HL.out]; exact HF.out)
      have HQC := Lib.hid (HQ.out wr HBr.out)
      go_wp2_with fail
      refine HQC.out.mono ?_
      rintro e w1 ⟨rfl, hbb⟩
      have HB1 := Lib.hid (bnext HBr.out hbb)
      clear hbb
      go_wp2_with fail
      go_ret
      exact ⟨ret_b HN.out.symm, HB1.out⟩

/-- The query under way in the box B: what is minimal of it is what is minimal of d. -/
def MinS (W : World) (s : List Int) (d q : QueryD) (B : Nat) (wr : World) (x y : Value) : Prop :=
  wr.cell? ⟨B, 0, none⟩ = some x ∧ wr.cell? ⟨B, 1, none⟩ = some y ∧ wr.frozen? ⟨B, 0, none⟩ = false ∧ wr.frozen? ⟨B, 1, none⟩ = false ∧ RdQuery wr (.agg #[x, y]) q ∧ SlB wr B ∧ Below W.heap.size W wr ∧ B < wr.heap.size ∧ minQ s q = minQ s d ∧ sizeQuery q ≤ sizeQuery d ∧ q.2.length ≤ d.2.length
def lenAt9 (w : World) (B : Nat) : Nat := match w.cell? ⟨B, 1, none⟩ with | some (.slice _ n _) => n | _ => 0
theorem lenAt9_of {w : World} {B : Nat} {a : Option Addr} {n c : Nat} (h : w.cell? ⟨B, 1, none⟩ = some (.slice a n c)) : lenAt9 w B = n := by unfold lenAt9; rw [h]
theorem MinS.below {W : World} {s : List Int} {d q : QueryD} {B : Nat} {wr w' : World} {x y : Value} (h : MinS W s d q B wr x y) (hb : Below wr.heap.size wr w') : MinS W s d q B w' x y := by
  obtain ⟨h1, h2, h3, h4, h5, h6, h7, h8, h9⟩ := h
  exact ⟨cellk hb h1, cellk hb h2, frok hb h1 h3, frok hb h2 h4, h5.below hb, h6.below h8 hb, bnext h7 hb, Nat.lt_of_lt_of_le h8 hb.size, h9⟩
/-- Another query laid into the box. -/
theorem MinS.lay {W : World} {s : List Int} {d q q' : QueryD} {B : Nat} {wr : World} {x y : Value} {a a' : Option Addr} {n c n' c' : Nat} (h : MinS W s d q B wr x y) (hB : W.heap.size ≤ B) (hr : RdQuery wr (.agg #[.slice a n c, .slice a' n' c']) q') (hm : minQ s q' = minQ s d) (hz : sizeQuery q' ≤ sizeQuery d) (hl : q'.2.length ≤ d.2.length) :
    MinS W s d q' B ((wr.setCell ⟨B, 0, none⟩ (.slice a n c)).setCell ⟨B, 1, none⟩ (.slice a' n' c')) (.slice a n c) (.slice a' n' c') := by
  obtain ⟨h1, h2, h3, h4, h5, h6, h7, h8, h9⟩ := h
  have hk : OnlyAt [B] wr ((wr.setCell ⟨B, 0, none⟩ (.slice a n c)).setCell ⟨B, 1, none⟩ (.slice a' n' c')) := (OnlyAt.setCell wr _ _ _).same (OnlyAt.setCell _ _ _ _)
  have e1 : (wr.setCell ⟨B, 0, none⟩ (.slice a n c)).cell? ⟨B, 0, none⟩ = some (.slice a n c) := World.cell?_setCell_same _ _ _ h1
  have e2 : (wr.setCell ⟨B, 0, none⟩ (.slice a n c)).cell? ⟨B, 1, none⟩ = some y := by rw [World.cell?_setCell_other _ _ _ _ (by intro e; cases e)]; exact h2
  refine ⟨?_, World.cell?_setCell_same _ _ _ e2, by simpa using h3, by simpa using h4, hr.offS hk h6, (h6.set h1).set e2, OnlyAt.below h7 hk (fun b hb => by simp at hb; omega), Nat.lt_of_lt_of_le h8 hk.size, hm, hz, hl⟩
  rw [World.cell?_setCell_other _ _ _ _ (by intro e; cases e)]; exact e1

set_option maxRecDepth 100000 in
set_option maxHeartbeats 8000000 in
theorem sMinimize_any (w : World) (vs v : Value) (s : List Int) (d : QueryD) (hvs : RdSchema w vs s) (h : RdQuery w v d) (hz : sizeQuery d ≤ 1048576) :
    Calls Try.prog 21 #[vs, v] w (GaveQ w (minQ s d)) := by
  have hz1 : d.1.length ≤ 1048576 := by unfold sizeQuery at hz; omega
  have hz2 : sizeAtomS d.2 ≤ 1048576 := by unfold sizeQuery at hz; omega
  have HCP := Lib.hid (fun W (hb : Below w.heap.size w W) => sCopy_any W v d (RdQuery.below h hb) hz1 hz2)
  have HQ := Lib.hid (fun W x q (hb : Below w.heap.size w W) (hx : RdQuery W x q) (hq : sizeQuery q ≤ sizeQuery d) => sIsQuery_any W vs x s q (RdSchema.below hvs hb) hx (by unfold sizeQuery at hq hz; omega))
  have HR := Lib.hid (fun W x q (i : Int) (hb : Below w.heap.size w W) (hx : RdQuery W x q) (hq : sizeQuery q ≤ sizeQuery d) => sRedundant_any W vs x s q i (RdSchema.below hvs hb) hx (Nat.le_trans hq hz))
  have HWO := Lib.hid (fun W x q (i : Int) (hb : Below w.heap.size w W) (hx : RdQuery W x q) (hq : sizeQuery q ≤ sizeQuery d) => sWithout_any W vs x s q i (RdSchema.below hvs hb) hx (by unfold sizeQuery at hq hz; omega) (by unfold sizeQuery at hq hz; omega))
  obtain ⟨n0, hn0⟩ : ∃ n0, n0 = d.2.length := ⟨_, rfl⟩
  have hn0z : n0 ≤ 1048576 := by unfold sizeAtomS at hz2; omega
  have HN0 := Lib.hid hn0
  obtain ⟨sa, sn, sc, rfl, hs⟩ := hvs
  obtain ⟨a0, h0, c0, a, n, c, rfl, hi, ha⟩ := h
  have hb0 : ∀ a b c, Below w.heap.size w (((w.alloc a).alloc b).alloc c) := fun a b c => (((Below.refl _ _).alloc (Nat.le_refl _) _).alloc (by simp) _).alloc (by simp; omega) _
  have HB0 := Lib.hid hb0
  clear hs hi ha hb0 hz hz1 hz2 hn0
  go_enter Try.func21, Try.ntmps21
  go_wp2_with fail
  obtain ⟨W, hW⟩ : ∃ W, W = ((w.alloc (.cells #[.slice sa sn sc] 35)).alloc (.cells #[.slice a0 h0 c0, .slice a n c] 32)).alloc (.cells #[.slice none 0 0, .slice none 0 0] 32) := ⟨_, rfl⟩
  have HBW : Hid (Below w.heap.size w W) := by rw [hW]; exact HB0.out _ _ _
  have q0 : W.cell? ⟨w.heap.size, 0, none⟩ = some (.slice sa sn sc) := by rw [hW]; exact box1 w _ _ _ _ 0 _ rfl
  have k0 : W.cell? ⟨w.heap.size + 1 + 1, 0, none⟩ = some (.slice none 0 0) := by rw [hW]; exact box3 w _ _ _ _ 0 _ rfl
  have k1 : W.cell? ⟨w.heap.size + 1 + 1, 1, none⟩ = some (.slice none 0 0) := by rw [hW]; exact box3 w _ _ _ _ 1 _ rfl
  have f0 : W.frozen? ⟨w.heap.size + 1 + 1, 0, none⟩ = false := by rw [hW]; exact frz3 w _ _ _ _ 0
  have f1 : W.frozen? ⟨w.heap.size + 1 + 1, 1, none⟩ = false := by rw [hW]; exact frz3 w _ _ _ _ 1
  have hsl : SlB W (w.heap.size + 1 + 1) := by
    rw [hW]
    have := SlB.new ((w.alloc (.cells #[.slice sa sn sc] 35)).alloc (.cells #[.slice a0 h0 c0, .slice a n c] 32)) none none 0 0 0 0 32
    simpa using this
  have hsz : W.heap.size = w.heap.size + 3 := by rw [hW]; simp
  rw [← hW]
  clear hW
  refine (HCP.out _ HBW.out).mono ?_
  rintro e W1 ⟨ra, rn, rc, ra', rn', rc', rfl, hr, hbb⟩
  have HSR := Lib.hid (hsl.below (by omega) hbb)
  replace f0 := frok hbb k0 f0
  replace f1 := frok hbb k1 f1
  replace q0 := cellk hbb q0
  replace k0 := cellk hbb k0
  replace k1 := cellk hbb k1
  have HB1 := Lib.hid (bnext HBW.out hbb)
  have HSZ : Hid (w.heap.size + 3 ≤ W1.heap.size) := by have := hbb.size; exact Lib.hid (by omega)
  have HR1 := Lib.hid hr
  clear hbb hr hsl hsz
  go_wp2_with fail
  obtain ⟨W2, hW⟩ : ∃ W2, W2 = W1.alloc (.cells #[.slice ra rn rc, .slice ra' rn' rc'] 32) := ⟨_, rfl⟩
  have HM0 : Hid (MinS W1 s d d W1.heap.size W2 (.slice ra rn rc) (.slice ra' rn' rc')) := by
    rw [hW]
    exact Lib.hid ⟨by simp, by simp, by simp, by simp, HR1.out.below (below_alloc _ _), SlB.new _ _ _ _ _ _ _ _, below_alloc _ _, by simp, rfl, Nat.le_refl _, Nat.le_refl _⟩
  rw [← hW]
  obtain ⟨B, hB⟩ : ∃ B, B = W1.heap.size := ⟨_, rfl⟩
  have HBB := Lib.hid hB
  rw [← hB] at HM0 ⊢
  have K0 := Lib.hid k0
  have K1 := Lib.hid k1
  have F0 := Lib.hid f0
  have F1 := Lib.hid f1
  have Q0 := Lib.hid q0
  clear hW hB k0 k1 f0 f1 q0
  go_loopw [6] (fun iv wr => ∃ (i : Nat) (q : QueryD) (xa : Option Addr) (xn xc : Nat) (ya : Option Addr) (yn yc : Nat), i ≤ yn ∧ iv = .int .i64 i ∧ Hid (MinS W1 s d q B wr (.slice xa xn xc) (.slice ya yn yc)) ∧ Hid (∀ j < i, redB s q (j : Int) = false)) (fun iv wr => lenAt9 wr B * (n0 + 1) + (lenAt9 wr B - (intOf iv).toNat))
  case atStart => exact ⟨0, d, _, _, _, _, _, _, by omega, rfl, HM0, Lib.hid (fun j hj => by omega)⟩
  case round =>
    obtain ⟨i, q, xa, xn, xc, ya, yn, yc, hi, rfl, HM, HF⟩ := hrel
    obtain ⟨x0, x1, g0, g1, hx, hxs, hbw, hBl, hms, hqz, hql⟩ := HM.out
    have hyl : q.2.length = yn := by
      obtain ⟨_, _, _, _, _, _, e, _, hr⟩ := hx
      cases e
      exact hr.at.1
    have HYL := Lib.hid hyl
    have HXN := Lib.hid hx
    have HMS := Lib.hid hms
    have HQZ := Lib.hid hqz
    have hBsz : w.heap.size + 3 ≤ B := by have := HSZ.out; have := HBB.out; omega
    have HBN := Lib.hid (bnext HB1.out hbw)
    have k0 := cellk hbw K0.out
    have k1 := cellk hbw K1.out
    have f0 := frok hbw K0.out F0.out
    have f1 := frok hbw K1.out F1.out
    have q0 := cellk hbw Q0.out
    have HSR := Lib.hid (HSR.out.below (by have := HSZ.out; omega) hbw)
    have hyz : yn ≤ n0 := by have := HN0.out; omega
    have HLA := Lib.hid (lenAt9_of x1)
    clear hx hms hqz hql hyl hxs
    by_cases hlt : i < yn
    · have hqc := HQ.out wr _ q HBN.out HXN.out HQZ.out
      obtain ⟨pf, hpf⟩ : ∃ p, fineB s q 4 = p := ⟨_, rfl⟩
      rw [hpf] at hqc
      have HPF := Lib.hid hpf
      have HQC := Lib.hid hqc
      clear hqc hpf hbw
      go_wp2_with fail
      refine HQC.out.mono ?_
      rintro e w4 ⟨rfl, hbb⟩
      replace HM := Lib.hid (HM.out.below hbb)
      replace x0 := cellk hbb x0
      replace x1 := cellk hbb x1
      replace f0 := frok hbb k0 f0
      replace f1 := frok hbb k1 f1
      replace k0 := cellk hbb k0
      replace k1 := cellk hbb k1
      replace q0 := cellk hbb q0
      replace HXN := Lib.hid (HXN.out.below hbb)
      replace HBN := Lib.hid (bnext HBN.out hbb)
      replace HSR := Lib.hid (HSR.out.below (by omega) hbb)
      have hB4 := hbb.size
      clear hbb g0 g1
      cases pf with
      | false =>
        have HEND : Hid (frN s q = none) := frN_none (fun j _ => redB_fine HPF.out _)
        have HRES : Hid (minQ s d = q) := by rw [← HMS.out]; exact Lib.hid (minQ_end (by first | exact HEND.out))
        go_wp2_with fail
        have hk : OnlyAt [w.heap.size + 1 + 1] w4 ((w4.setCell ⟨w.heap.size + 1 + 1, 0, none⟩ (.slice xa xn xc)).setCell ⟨w.heap.size + 1 + 1, 1, none⟩ (.slice ya yn yc)) := (OnlyAt.setCell w4 _ _ _).same (OnlyAt.setCell _ _ _ _)
        exact bodyPost_ret (v := .agg #[.slice xa xn xc, .slice ya yn yc]) (by simp [results, Try.results21, go_sem, k0, k1]) rfl ⟨_, _, _, _, _, _, rfl, by rw [HRES.out]; exact HXN.out.offS hk HSR.out, OnlyAt.below HBN.out hk (fun x hx => by simp at hx; omega)⟩
      | true =>
        have hrc := HR.out w4 _ q (i : Int) HBN.out HXN.out HQZ.out
        obtain ⟨pr, hpr⟩ : ∃ p, redB s q (i : Int) = p := ⟨_, rfl⟩
        rw [hpr] at hrc
        have HPR := Lib.hid hpr
        have HRC := Lib.hid hrc
        clear hrc hpr
        go_wp2_with fail
        refine HRC.out.mono ?_
        rintro e w5 ⟨rfl, hbb⟩
        replace HM := Lib.hid (HM.out.below hbb)
        replace x0 := cellk hbb x0
        replace x1 := cellk hbb x1
        replace k0 := cellk hbb k0
        replace k1 := cellk hbb k1
        replace q0 := cellk hbb q0
        replace HXN := Lib.hid (HXN.out.below hbb)
        replace HBN := Lib.hid (bnext HBN.out hbb)
        have hB5 := hbb.size
        clear hbb f0 f1
        cases pr with
        | false =>
          have HLA5 := Lib.hid (lenAt9_of x1)
          go_wp2_with fail
          exact ⟨⟨i + 1, q, _, _, _, _, _, _, by omega, by simp, HM, Lib.hid (fun j hj => by
            by_cases h : j < i
            · exact HF.out j h
            · obtain rfl : j = i := by omega
              exact HPR.out)⟩, by rw [HLA.out, HLA5.out]; simp [intOf]; omega⟩
        | true =>
          have HWC := Lib.hid (HWO.out w5 _ q (i : Int) HBN.out HXN.out HQZ.out)
          go_wp2_with fail
          refine HWC.out.mono ?_
          rintro e w6 ⟨za, zn, zc, ua, un, uc, rfl, hzr, hbb⟩
          have hal := bnext hbb (below_alloc w6 (.cells #[.slice za zn zc, .slice ua un uc] 32))
          replace HM := Lib.hid (HM.out.below hal)
          have y0 := HM.out.1
          have y1 := HM.out.2.1
          have y2 := HM.out.2.2.1
          have y3 := HM.out.2.2.2.1
          have hne : ¬ w6.heap.size = B := by have := hbb.size; have := HM.out.2.2.2.2.2.2.2.1; omega
          have hul : (woQ s q (i : Int)).2.length = un := by
            obtain ⟨_, _, _, _, _, _, e, _, hr⟩ := hzr
            cases e
            exact hr.at.1
          have HNEW := Lib.hid (HM.out.lay (by rw [HBB.out]; exact Nat.le_refl _) (hzr.below (below_alloc w6 (.cells #[.slice za zn zc, .slice ua un uc] 32))) ((red_min HPR.out HF.out).trans HMS.out) (Nat.le_trans (woQ_sz s q i) HQZ.out) (Nat.le_trans (woQ_len s q i) (by have := HYL.out; have := HN0.out; omega)))
          have hun : un + 1 = yn := by rw [← hul, red_len HPR.out]; exact HYL.out
          clear hal hzr hbb hul x0 x1 k0 k1 q0
          go_wp2_with fail
          have HLA6 := Lib.hid (lenAt9_of HNEW.out.2.1)
          refine ⟨⟨0, _, _, _, _, _, _, _, by omega, rfl, HNEW, Lib.hid (fun j hj => by omega)⟩, ?_⟩
          rw [HLA.out, HLA6.out]
          have : (un + 1) * (n0 + 1) = un * (n0 + 1) + (n0 + 1) := Nat.succ_mul _ _
          rw [← hun]
          simp [intOf]; omega
    · obtain rfl : i = yn := by omega
      have HEND : Hid (frN s q = none) := frN_none (by rw [HYL.out]; exact HF.out)
      clear hbw g0 g1
      have HRES : Hid (minQ s d = q) := by rw [← HMS.out]; exact Lib.hid (minQ_end (by first | exact HEND.out))
      go_wp2_with fail
      have hk : OnlyAt [w.heap.size + 1 + 1] wr ((wr.setCell ⟨w.heap.size + 1 + 1, 0, none⟩ (.slice xa xn xc)).setCell ⟨w.heap.size + 1 + 1, 1, none⟩ (.slice ya i yc)) := (OnlyAt.setCell wr _ _ _).same (OnlyAt.setCell _ _ _ _)
      exact bodyPost_ret (v := .agg #[.slice xa xn xc, .slice ya i yc]) (by simp [results, Try.results21, go_sem, k0, k1]) rfl ⟨_, _, _, _, _, _, rfl, by rw [HRES.out]; exact HXN.out.offS hk HSR.out, OnlyAt.below HBN.out hk (fun x hx => by simp at hx; omega)⟩
end Go.Proofs.Ytdbeogmabcbdoaa
