/- Contracts of chapter 9's impl: firstRedundant, IsMinimal, MinimizeQuery. -/
import Derived.Test.YtdbeogmabcbdoaaI9b
namespace Go.Proofs.Ytdbeogmabcbdoaa
open Go Go.Sort Go.RowKit
set_option linter.unusedVariables false

/-- A call that answers the first redundant atom's index, and whether there is one. -/
def GaveFR (w : World) (o : Option Nat) (e : Ending) (w' : World) : Prop := e = .returned (.tuple #[.int .i64 ((o.getD 0 : Nat) : Int), .bool o.isSome]) ∧ Below w.heap.size w w'
theorem ret_fr {a b : Int} {c d : Bool} (h : a = b) (h2 : c = d) : Ending.returned (.tuple #[.int .i64 a, .bool c]) = .returned (.tuple #[.int .i64 b, .bool d]) := by rw [h, h2]
set_option maxHeartbeats 4000000 in
theorem iFirstRed_any (w : World) (vs v : Value) (s : List Int) (d : QueryD) (hvs : RdSchema w vs s) (h : RdQuery w v d) (hz : sizeQuery d ≤ 1048576) :
    Calls Try.prog 46 #[vs, v] w (GaveFR w (frN s d)) := by
  have hz2 : sizeAtomS d.2 ≤ 1048576 := by unfold sizeQuery at hz; omega
  have HR := Lib.hid (fun W (i : Int) (hb : Below w.heap.size w W) => iRedundant_any W vs v s d i (RdSchema.below hvs hb) (RdQuery.below h hb) hz)
  obtain ⟨sa, sn, sc, rfl, hs⟩ := hvs
  obtain ⟨a0, n0, c0, a, n, c, rfl, hi, ha⟩ := h
  obtain ⟨hl, hn, hm, hcell⟩ := ha.at
  unfold maxLen at hm
  have HL := Lib.hid hl
  have hln : n ≤ 1048576 := by unfold sizeAtomS at hz2; omega
  have hb0 : ∀ a b, Below w.heap.size w ((w.alloc a).alloc b) := fun a b => ((Below.refl _ _).alloc (Nat.le_refl _) _).alloc (by simp) _
  have HB0 := Lib.hid hb0
  clear hs hi ha hcell hl hb0 hz hz2
  go_enter Try.func46, Try.ntmps46
  go_wp2_with fail
  obtain ⟨W, hW⟩ : ∃ W, W = (w.alloc (.cells #[.slice sa sn sc] 35)).alloc (.cells #[.slice a0 n0 c0, .slice a n c] 32) := ⟨_, rfl⟩
  have HBW : Hid (Below w.heap.size w W) := by rw [hW]; exact HB0.out _ _
  have Q0 : Hid (W.cell? ⟨w.heap.size, 0, none⟩ = some (.slice sa sn sc)) := by rw [hW]; exact Lib.hid (by simp)
  have Q1 : Hid (W.cell? ⟨w.heap.size + 1, 0, none⟩ = some (.slice a0 n0 c0)) := by rw [hW]; exact Lib.hid (by simp)
  have Q2 : Hid (W.cell? ⟨w.heap.size + 1, 1, none⟩ = some (.slice a n c)) := by rw [hW]; exact Lib.hid (by simp)
  rw [← hW]
  clear hW
  go_loopw [10] (fun iv wr => ∃ i : Nat, i ≤ n ∧ iv = .int .i64 i ∧ Hid (∀ j < i, redB s d (j : Int) = false) ∧ Hid (Below W.heap.size W wr)) (fun iv _ => n - (intOf iv).toNat)
  case atStart => exact ⟨0, by omega, rfl, Lib.hid (fun j hj => by omega), Lib.hid (Below.refl _ _)⟩
  case round =>
    obtain ⟨i, hi, rfl, HF, HB⟩ := hrel
    have q0 := cellk HB.out Q0.out
    have q1 := cellk HB.out Q1.out
    have q2 := cellk HB.out Q2.out
    have HBr := Lib.hid (bnext HBW.out HB.out)
    by_cases hlt : i < n
    · have hr := HR.out wr (i : Int) HBr.out
      obtain ⟨p, hp⟩ : ∃ p, redB s d (i : Int) = p := ⟨_, rfl⟩
      rw [hp] at hr
      have HP := Lib.hid hp
      have HRC := Lib.hid hr
      clear hp hr
      go_wp2_with fail
      refine HRC.out.mono ?_
      rintro e w1 ⟨rfl, hbb⟩
      have HB1 := Lib.hid (bnext HB.out hbb)
      clear hbb q0 q1 q2
      cases p with
      | true =>
        have HN : Hid (frN s d = some i) := frN_some (by rw [HL.out]; exact hlt) HF.out HP.out
        go_wp2_with fail
        go_ret2
        exact ⟨ret_fr (by rw [HN.out]; rfl) (by rw [HN.out]; rfl), bnext HBW.out HB1.out⟩
      | false =>
        go_wp2_with fail
        exact ⟨⟨i + 1, by omega, by simp, Lib.hid (fun j hj => by
          by_cases h : j < i
          · exact HF.out j h
          · obtain rfl : j = i := by omega
            exact HP.out), HB1⟩, by simp [intOf]; omega⟩
    · obtain rfl : i = n := by omega
      have HN : Hid (frN s d = none) := frN_none (by rw [HL.out]; exact HF.out)
      go_wp2_with fail
      go_ret2
      exact ⟨ret_fr (by rw [HN.out]; rfl) (by rw [HN.out]; rfl), HBr.out⟩

set_option maxHeartbeats 4000000 in
theorem iIsMinimal_any (w : World) (vs v : Value) (s : List Int) (d : QueryD) (hvs : RdSchema w vs s) (h : RdQuery w v d) (hz : sizeQuery d ≤ 1048576) :
    Calls Try.prog 24 #[vs, v] w (GaveBool w (minB s d)) := by
  have hz2 : sizeAtomS d.2 ≤ 1048576 := by unfold sizeQuery at hz; omega
  have HQ := Lib.hid (fun W (hb : Below w.heap.size w W) => iIsQuery_any W vs v s d (RdSchema.below hvs hb) (RdQuery.below h hb) hz2)
  have HR := Lib.hid (fun W (hb : Below w.heap.size w W) => iFirstRed_any W vs v s d (RdSchema.below hvs hb) (RdQuery.below h hb) hz)
  obtain ⟨B, hB⟩ : ∃ B, B = minB s d := ⟨_, rfl⟩
  rw [← hB]
  unfold minB at hB
  obtain ⟨p, hp⟩ : ∃ p, fineB s d 4 = p := ⟨_, rfl⟩
  obtain ⟨o, ho⟩ : ∃ o, frN s d = o := ⟨_, rfl⟩
  rw [hp] at HQ hB
  rw [ho] at HR hB
  have HBE := Lib.hid hB
  obtain ⟨sa, sn, sc, rfl, hs⟩ := hvs
  obtain ⟨a0, n0, c0, a, n, c, rfl, hi, ha⟩ := h
  have hb0 : ∀ a b, Below w.heap.size w ((w.alloc a).alloc b) := fun a b => ((Below.refl _ _).alloc (Nat.le_refl _) _).alloc (by simp) _
  have HB0 := Lib.hid hb0
  clear hs hi ha hb0 hz hz2 hB hp ho
  go_enter Try.func24, Try.ntmps24
  go_wp2_with fail
  obtain ⟨W, hW⟩ : ∃ W, W = (w.alloc (.cells #[.slice sa sn sc] 35)).alloc (.cells #[.slice a0 n0 c0, .slice a n c] 32) := ⟨_, rfl⟩
  have HBW : Hid (Below w.heap.size w W) := by rw [hW]; exact HB0.out _ _
  have Q0 : Hid (W.cell? ⟨w.heap.size, 0, none⟩ = some (.slice sa sn sc)) := by rw [hW]; exact Lib.hid (by simp)
  have Q1 : Hid (W.cell? ⟨w.heap.size + 1, 0, none⟩ = some (.slice a0 n0 c0)) := by rw [hW]; exact Lib.hid (by simp)
  have Q2 : Hid (W.cell? ⟨w.heap.size + 1, 1, none⟩ = some (.slice a n c)) := by rw [hW]; exact Lib.hid (by simp)
  rw [← hW]
  clear hW
  refine (HQ.out _ HBW.out).mono ?_
  rintro e w1 ⟨rfl, hbb⟩
  have q0 := cellk hbb Q0.out
  have q1 := cellk hbb Q1.out
  have q2 := cellk hbb Q2.out
  have HB1 := Lib.hid (bnext HBW.out hbb)
  clear hbb
  cases p with
  | false =>
    go_wp2_with fail
    go_ret
    exact ⟨ret_b HBE.out.symm, HB1.out⟩
  | true =>
    go_wp2_with fail
    refine (HR.out _ HB1.out).mono ?_
    rintro e w2 ⟨rfl, hbb⟩
    have HB2 := Lib.hid (bnext HB1.out hbb)
    clear hbb
    cases o with
    | none =>
      go_wp2_with fail
      go_ret
      exact ⟨ret_b HBE.out.symm, HB2.out⟩
    | some k =>
      go_wp2_with fail
      go_ret
      exact ⟨ret_b HBE.out.symm, HB2.out⟩

set_option maxRecDepth 100000 in
set_option maxHeartbeats 8000000 in
theorem iMinimize_any (w : World) (vs v : Value) (s : List Int) (d : QueryD) (hvs : RdSchema w vs s) (h : RdQuery w v d) (hz : sizeQuery d ≤ 1048576) :
    Calls Try.prog 22 #[vs, v] w (GaveO (fun w' v' bs => ROQuery w' v' (minQ s d) bs) w) := by
  have hz2 : sizeAtomS d.2 ≤ 1048576 := by unfold sizeQuery at hz; omega
  have HQ := Lib.hid (fun W (hb : Below w.heap.size w W) => iIsQuery_any W vs v s d (RdSchema.below hvs hb) (RdQuery.below h hb) hz2)
  have HR := Lib.hid (fun W x q (hb : Below w.heap.size w W) (hx : RdQuery W x q) (hq : sizeQuery q ≤ sizeQuery d) => iFirstRed_any W vs x s q (RdSchema.below hvs hb) hx (Nat.le_trans hq hz))
  have HWO := Lib.hid (fun W x q (i : Int) (hb : Below w.heap.size w W) (hx : RdQuery W x q) (hq : sizeQuery q ≤ sizeQuery d) => iWithoutO_any W vs x s q i (RdSchema.below hvs hb) hx (Nat.le_trans hq hz))
  obtain ⟨sa, sn, sc, rfl, hs⟩ := hvs
  obtain ⟨a0, n0, c0, a, n, c, rfl, hi, ha⟩ := h
  have hat : RdAtomS w (.slice a n c) d.2 := ⟨_, _, _, rfl, ha⟩
  have HNQ := Lib.hid (fun W (hb : Below w.heap.size w W) => iNewQuery_any W (.slice a0 n0 c0) (.slice a n c) d.1 d.2 (hi.below hb) (hat.below hb) hz)
  obtain ⟨p, hp⟩ : ∃ p, fineB s d 4 = p := ⟨_, rfl⟩
  rw [hp] at HQ
  have HP := Lib.hid hp
  have hb0 : ∀ a b c, Below w.heap.size w (((w.alloc a).alloc b).alloc c) := fun a b c => (((Below.refl _ _).alloc (Nat.le_refl _) _).alloc (by simp) _).alloc (by simp; omega) _
  have HB0 := Lib.hid hb0
  clear hs hi ha hb0 hz hz2 hp hat
  go_enter Try.func22, Try.ntmps22
  go_wp2_with fail
  obtain ⟨W, hW⟩ : ∃ W, W = ((w.alloc (.cells #[.slice sa sn sc] 35)).alloc (.cells #[.slice a0 n0 c0, .slice a n c] 32)).alloc (.cells #[.slice none 0 0, .slice none 0 0] 32) := ⟨_, rfl⟩
  have HBW : Hid (Below w.heap.size w W) := by rw [hW]; exact HB0.out _ _ _
  have q0 : W.cell? ⟨w.heap.size, 0, none⟩ = some (.slice sa sn sc) := by rw [hW]; exact box1 w _ _ _ _ 0 _ rfl
  have q1 : W.cell? ⟨w.heap.size + 1, 0, none⟩ = some (.slice a0 n0 c0) := by rw [hW]; exact box2 w _ _ _ _ 0 _ rfl
  have q2 : W.cell? ⟨w.heap.size + 1, 1, none⟩ = some (.slice a n c) := by rw [hW]; exact box2 w _ _ _ _ 1 _ rfl
  have K0 : Hid (W.cell? ⟨w.heap.size + 1 + 1, 0, none⟩ = some (.slice none 0 0)) := by rw [hW]; exact box3 w _ _ _ _ 0 _ rfl
  have K1 : Hid (W.cell? ⟨w.heap.size + 1 + 1, 1, none⟩ = some (.slice none 0 0)) := by rw [hW]; exact box3 w _ _ _ _ 1 _ rfl
  have F0 : Hid (W.frozen? ⟨w.heap.size + 1 + 1, 0, none⟩ = false) := by rw [hW]; exact frz3 w _ _ _ _ 0
  have F1 : Hid (W.frozen? ⟨w.heap.size + 1 + 1, 1, none⟩ = false) := by rw [hW]; exact frz3 w _ _ _ _ 1
  have HSZ : Hid (W.heap.size = w.heap.size + 3) := by rw [hW]; exact Lib.hid (by simp)
  rw [← hW]
  clear hW
  have Q0 := Lib.hid q0
  refine (HNQ.out _ HBW.out).mono ?_
  rintro e w1 ⟨r, bs0, rfl, hr, hfr, hbb⟩
  have HR1 := Lib.hid hr
  have HF1 := Lib.hid hfr
  obtain ⟨ra, rn, rc, ra', rn', rc', rfl, _⟩ := hr
  have hal : Below W.heap.size W (w1.alloc (.cells #[.slice ra rn rc, .slice ra' rn' rc'] 32)) := bnext hbb (below_alloc _ _)
  replace q0 := cellk hal q0
  replace q1 := cellk hal q1
  replace q2 := cellk hal q2
  have HAL := Lib.hid hal
  have HBB := Lib.hid hbb
  clear hbb hfr hal
  go_wp2_with fail
  obtain ⟨W2, hW⟩ : ∃ W2, W2 = w1.alloc (.cells #[.slice ra rn rc, .slice ra' rn' rc'] 32) := ⟨_, rfl⟩
  have HM0 : Hid (LaidQ W d W2 w1.heap.size ra rn rc ra' rn' rc' bs0) := by
    rw [hW]
    exact Lib.hid (laidQ_new HR1.out HF1.out.1 (fun b hb => HF1.out.2 b hb) HBB.out)
  have HBN0 : Hid (Below w.heap.size w W2) := by rw [hW]; exact Lib.hid (bnext HBW.out HAL.out)
  rw [← hW] at q0 q1 q2 ⊢
  obtain ⟨B, hB⟩ : ∃ B, B = w1.heap.size := ⟨_, rfl⟩
  rw [← hB] at HM0 ⊢
  clear hW hB HAL HBB
  refine (HQ.out _ HBN0.out).mono ?_
  rintro e w3 ⟨rfl, hbb⟩
  have HM3 := Lib.hid (HM0.out.below hbb)
  have HBN := Lib.hid (bnext HBN0.out hbb)
  clear hbb q0 q1 q2 HM0 HBN0
  cases p with
  | false =>
    have HRES : Hid (minQ s d = d) := minQ_not HP.out
    have HLQ := HM3
    have hbw := HLQ.out.2.2.2.2.2.2.2.2.2
    have k0 := cellk hbw K0.out
    have k1 := cellk hbw K1.out
    have f0 := frok hbw K0.out F0.out
    have f1 := frok hbw K1.out F1.out
    have x0 := HLQ.out.1
    have x1 := HLQ.out.2.1
    clear hbw
    go_wp2_with fail
    have hk : OnlyAt [w.heap.size + 1 + 1] w3 ((w3.setCell ⟨w.heap.size + 1 + 1, 0, none⟩ (.slice ra rn rc)).setCell ⟨w.heap.size + 1 + 1, 1, none⟩ (.slice ra' rn' rc')) := (OnlyAt.setCell w3 _ _ _).same (OnlyAt.setCell _ _ _ _)
    obtain ⟨_, _, _, _, hro, hnd, hlo, _, _, _⟩ := HLQ.out
    exact bodyPost_ret (v := .agg #[.slice ra rn rc, .slice ra' rn' rc']) (by simp [results, Try.results22, go_sem, k0, k1]) rfl ⟨_, bs0, rfl, by rw [HRES.out]; exact hro.onlyAt hk (fun b hb hm => by have := (hlo b hb).1; have := HSZ.out; simp at hm; omega), ⟨hnd, fun b hb => ⟨by have := (hlo b hb).1; have := HSZ.out; omega, Nat.lt_of_lt_of_le (hlo b hb).2.1 hk.size⟩⟩, OnlyAt.below HBN.out hk (fun x hx => by simp at hx; omega)⟩
  | true =>
    have HMS0 : Hid (minQ s d = minQ s d) := Lib.hid rfl
    go_wp2_with fail
    go_loopw [6, 7] (fun _ _ wr => ∃ (q : QueryD) (xa : Option Addr) (xn xc : Nat) (ya : Option Addr) (yn yc : Nat) (bs : List Nat), Hid (LaidQ W q wr B xa xn xc ya yn yc bs) ∧ Hid (minQ s q = minQ s d) ∧ Hid (sizeQuery q ≤ sizeQuery d)) (fun _ _ wr => lenAt9 wr B)
    case atStart => exact ⟨d, _, _, _, _, _, _, _, HM3, Lib.hid rfl, Lib.hid (Nat.le_refl _)⟩
    case round =>
      obtain ⟨q, xa, xn, xc, ya, yn, yc, bs, HLQ0, HMS, HQZ⟩ := hrel
      have hbw := HLQ0.out.2.2.2.2.2.2.2.2.2
      have HBr := Lib.hid (bnext HBW.out hbw)
      have q0 := cellk hbw Q0.out
      have x0 := HLQ0.out.1
      have x1 := HLQ0.out.2.1
      have hrd := HLQ0.out.2.2.2.2.1.rd
      have hyl : q.2.length = yn := by
        obtain ⟨_, _, _, _, _, _, e, _, hr⟩ := hrd
        cases e
        exact hr.at.1
      have HYL := Lib.hid hyl
      have hfc := HR.out wr _ q HBr.out hrd HQZ.out
      obtain ⟨o, ho⟩ : ∃ o, frN s q = o := ⟨_, rfl⟩
      rw [ho] at hfc
      have HO := Lib.hid ho
      have HFC := Lib.hid hfc
      clear ho hfc hyl hrd hbw
      go_wp2_with fail
      refine HFC.out.mono ?_
      rintro e w4 ⟨rfl, hbb⟩
      have HLQ := Lib.hid (HLQ0.out.below hbb)
      have HBN := Lib.hid (bnext HBr.out hbb)
      have hbw := HLQ.out.2.2.2.2.2.2.2.2.2
      replace q0 := cellk hbb q0
      replace x0 := cellk hbb x0
      replace x1 := cellk hbb x1
      have HLA := Lib.hid (lenAt9_of HLQ0.out.2.1)
      cases o with
      | none =>
        have k0 := cellk hbw K0.out
        have k1 := cellk hbw K1.out
        have f0 := frok hbw K0.out F0.out
        have f1 := frok hbw K1.out F1.out
        have HRES : Hid (minQ s d = q) := by rw [← HMS.out]; exact Lib.hid (minQ_end HO.out)
        clear hbw hbb
        go_wp2_with fail
        have hk : OnlyAt [w.heap.size + 1 + 1] w4 ((w4.setCell ⟨w.heap.size + 1 + 1, 0, none⟩ (.slice xa xn xc)).setCell ⟨w.heap.size + 1 + 1, 1, none⟩ (.slice ya yn yc)) := (OnlyAt.setCell w4 _ _ _).same (OnlyAt.setCell _ _ _ _)
        obtain ⟨_, _, _, _, hro, hnd, hlo, _, _, _⟩ := HLQ.out
        exact bodyPost_ret (v := .agg #[.slice xa xn xc, .slice ya yn yc]) (by simp [results, Try.results22, go_sem, k0, k1]) rfl ⟨_, bs, rfl, by rw [HRES.out]; exact hro.onlyAt hk (fun b hb hm => by have := (hlo b hb).1; have := HSZ.out; simp at hm; omega), ⟨hnd, fun b hb => ⟨by have := (hlo b hb).1; have := HSZ.out; omega, Nat.lt_of_lt_of_le (hlo b hb).2.1 hk.size⟩⟩, OnlyAt.below HBN.out hk (fun x hx => by simp at hx; omega)⟩
      | some k =>
        have HRD := Lib.hid (redB_in (frN_in HO.out))
        have HWC := Lib.hid (HWO.out w4 _ q (k : Int) HBN.out HLQ.out.2.2.2.2.1.rd HQZ.out)
        clear hbw hbb
        go_wp2_with fail
        refine HWC.out.mono ?_
        rintro e w5 ⟨za, zn, zc, ua, un, uc, bs', rfl, hzr, hzf, hbb⟩
        have HL5 := Lib.hid (HLQ.out.below hbb)
        obtain ⟨y0, y1, y2, y3, _, _, _, hBW, hBl, hbw⟩ := HL5.out
        have hB4 := HLQ.out.2.2.2.2.2.2.2.2.1
        have hW4 := HLQ.out.2.2.2.2.2.2.2.2.2.size
        have HNEW := Lib.hid (laidQ_set (W := W) hzr hzf.1 (fun b hb => ⟨by have := (hzf.2 b hb).1; omega, (hzf.2 b hb).2, by have := (hzf.2 b hb).1; omega⟩) hBW hbw y0 y1 y2 y3)
        have hwq : woQ s q (k : Int) = cut9 q k := by have := HRD.out.2.2.1; rwa [Int.toNat_natCast] at this
        have hkl : k < q.2.length := by have := HRD.out.2.1; rwa [Int.toNat_natCast] at this
        have hul : (woQ s q (k : Int)).2.length = un := by
          obtain ⟨_, _, _, _, _, _, e, _, hr⟩ := hzr.rd
          cases e
          exact hr.at.1
        have hun : un + 1 = yn := by
          rw [← hul, hwq, ← HYL.out]; exact cutA_len hkl
        have HMN : Hid (minQ s (woQ s q (k : Int)) = minQ s d) := by rw [hwq, ← minQ_step HO.out]; exact HMS
        clear hzr hzf hbb hbw hul hwq hkl x0 x1 q0
        go_wp2_with fail
        have HLA6 := Lib.hid (lenAt9_of HNEW.out.2.1)
        refine ⟨⟨_, _, _, _, _, _, _, _, HNEW, HMN, Lib.hid (Nat.le_trans (woQ_sz s q _) HQZ.out)⟩, ?_⟩
        rw [HLA.out, HLA6.out]; omega
end Go.Proofs.Ytdbeogmabcbdoaa
