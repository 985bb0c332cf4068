/- Contracts of chapter 4's program: readHead, readQuery, ParseQuery. -/
import Derived.Test.YtchcifikopmfoaaGreatDoorPqmath
import Derived.Test.YtchcifikopmfoaaGreatDoorIpatom2
import Derived.Test.YtchcifikopmfoaaGreatDoorPartA
import Derived.Test.YtchcifikopmfoaaGreatDoorIquery
namespace Go.Proofs.YtchcifikopmfoaaGreatDoor
open Go Go.Sort Go.RowKit
set_option linter.unusedVariables false

def rhVal (h : List UInt8) : List Int := if qHeadOk h then qHeadVal h else []
def GaveRH (s : List UInt8) (w : World) (e : Ending) (w' : World) : Prop := ∃ a n c bs, e = .returned (.tuple #[.slice a n c, .bool (qHeadOk s)]) ∧ OInts w' (.slice a n c) (rhVal s) bs ∧ Fresh w w' bs ∧ Below w.heap.size w w'
theorem iReadHead_any (s : ByteArray) (w : World) (hs : s.size ≤ 1048576) (he : EnvS w) :
    Calls Tryz.prog 36 #[.string s] w (GaveRH s.data.toList w) := by
  have HR := Lib.hid (fun w h => iReadTerms_any s w hs h)
  have HE := Lib.hid he
  by_cases hy : s.data.toList = [121, 101, 115]
  · have q : (s.toList == [121, 101, 115]) = true := eqb_true hy
    have HQ : Hid (∀ w', Below w.heap.size w w' → GaveRH s.data.toList w (.returned (.tuple #[.slice none 0 0, .bool true])) w') := fun w' hb => by
      have h1 : qHeadOk s.data.toList = true := by unfold qHeadOk; rw [decide_eq_true hy]; rfl
      refine ⟨none, 0, 0, [], by rw [h1], ?_, freshNil _ _, hb⟩
      unfold rhVal qHeadVal
      rw [if_pos h1, if_pos hy]
      exact ⟨Ints.nil _, .inl ⟨none, 0, rfl, rfl⟩⟩
    clear hy he hs
    go_enter Tryz.func36, Tryz.ntmps36
    go_wp2_with fail
    go_ret2
    exact HQ.out _ (Below.refl _ _)
  · have q : (s.toList == [121, 101, 115]) = false := eqb_false hy
    have h1 : qHeadOk s.data.toList = rtOk s.data.toList := by unfold qHeadOk; rw [decide_eq_false hy]; rfl
    have h2 : rhVal s.data.toList = rtVal s.data.toList := by
      unfold rhVal rtVal qHeadVal; rw [h1, if_neg hy]
    have HQ : Hid (∀ a n c bs w', OInts w' (.slice a n c) (rtVal s.data.toList) bs → Fresh w w' bs → Below w.heap.size w w' → GaveRH s.data.toList w (.returned (.tuple #[.slice a n c, .bool (rtOk s.data.toList)])) w') := fun a n c bs w' ho hf hb =>
      ⟨a, n, c, bs, by rw [h1], by rw [h2]; exact ho, hf, hb⟩
    unfold GaveRT at HR
    clear hy he hs h1 h2
    generalize rtOk s.data.toList = ok at *
    generalize rtVal s.data.toList = L at *
    go_enter Tryz.func36, Tryz.ntmps36
    go_wp2_with fail
    refine (HR.out _ HE.out).mono ?_
    rintro e w5 ⟨a, n, c, bs', rfl, ho, hf, hb⟩
    have HN := Lib.hid (HQ.out _ _ _ _ _ ho hf hb)
    clear ho hf hb
    go_wp2_with fail
    go_ret2
    exact HN.out

def rqRes (l : List UInt8) : QueryD := if rqOk l then rqVal l else ([], [])
def GaveRQ (l : List UInt8) (w : World) (e : Ending) (w' : World) : Prop := ∃ v bs, e = .returned (.tuple #[v, .bool (rqOk l)]) ∧ ROQuery w' v (rqRes l) bs ∧ Fresh w w' bs ∧ Below w.heap.size w w'
theorem zeroQueryO (w : World) : ROQuery w (.agg #[.slice none 0 0, .slice none 0 0]) ([], []) [] :=
  ⟨_, _, _, _, _, _, rfl, [], [], ⟨Ints.nil _, .inl ⟨none, 0, rfl, rfl⟩⟩, .inl ⟨none, 0, rfl, Nat.zero_le _, rfl, rfl⟩, rfl⟩
theorem rq_no {l : List UInt8} (h : rqOk l = false) : rqRes l = ([], []) := by unfold rqRes; rw [h]; rfl
/-- A query laid into a box g that is older than both its parts. -/
theorem own2_done {w wL : World} {d : QueryD} {aa ba : Option Addr} {an ac bn bc g B M : Nat} {bsa bsb : List Nat} {u u' : Value} (hg : g < B) (hw : w.heap.size ≤ g) (hB : w.heap.size ≤ B) (hBM : B ≤ M) (hl : Below w.heap.size w wL)
    (oa : OInts wL (.slice aa an ac) d.1 bsa) (ob : ROSl 2 COAtom wL (.slice ba bn bc) d.2 bsb) (na : bsa.Nodup) (nb : bsb.Nodup) (fa : ∀ b ∈ bsa, B ≤ b ∧ b < M) (fb : ∀ b ∈ bsb, M ≤ b ∧ b < wL.heap.size) (hM : M ≤ wL.heap.size) :
    ROQuery ((wL.setCell ⟨g, 0, none⟩ u).setCell ⟨g, 1, none⟩ u') (.agg #[.slice aa an ac, .slice ba bn bc]) d (bsa ++ bsb) ∧ Fresh w ((wL.setCell ⟨g, 0, none⟩ u).setCell ⟨g, 1, none⟩ u') (bsa ++ bsb) ∧ Below w.heap.size w ((wL.setCell ⟨g, 0, none⟩ u).setCell ⟨g, 1, none⟩ u') := by
  have k : OnlyAt [g] wL ((wL.setCell ⟨g, 0, none⟩ u).setCell ⟨g, 1, none⟩ u') := (OnlyAt.setCell _ _ _ _).same (OnlyAt.setCell _ _ _ _)
  have hs : ((wL.setCell ⟨g, 0, none⟩ u).setCell ⟨g, 1, none⟩ u').heap.size = wL.heap.size := by simp [World.setCell]
  refine ⟨⟨_, _, _, _, _, _, rfl, bsa, bsb, ?_, ?_, rfl⟩, ⟨?_, fun b hb => ?_⟩, OnlyAt.below hl k (fun x hx => by simp at hx; omega)⟩
  · exact oa.onlyAt k (fun b hb hm => by simp at hm; have := (fa b hb).1; omega)
  · exact ob.onlyAt k (fun b hb hm => by simp at hm; have := (fb b hb).1; omega) (fun _ _ _ hn h => h.onlyAt hn k)
  · rw [List.nodup_append]
    refine ⟨na, nb, fun x hx y hy e => ?_⟩
    have := (fa x hx).2; have := (fb y hy).1; omega
  · rw [hs]
    rcases List.mem_append.1 hb with hb | hb
    · have := fa b hb; omega
    · have := fb b hb; omega

set_option maxRecDepth 100000 in
set_option maxHeartbeats 8000000 in
theorem iReadQuery_any (s : ByteArray) (w : World) (hs : s.size ≤ 1048576) (he : EnvS w) :
    Calls Tryz.prog 20 #[.string s] w (GaveRQ s.data.toList w) := by
  have hlen : s.data.toList.length = s.size := by simp
  have hz := cut_le s.data.toList [32, 58, 45, 32]
  change (qCut s.data.toList).1.length ≤ _ ∧ (qCut s.data.toList).2.1.length ≤ _ at hz
  have H2 : Hid (∀ w, MaxL w → Calls Tryz.prog 35 #[.string s, .string ⟨#[32, 58, 45, 32]⟩] w fun e w' => e = .returned (.tuple #[.string (bs (qCut s.data.toList).1), .string (bs (qCut s.data.toList).2.1), .bool (qCut s.data.toList).2.2]) ∧ Below w.heap.size w w') := by
    rintro w ⟨m, hm⟩
    refine (Tryz.strings_Cut s ⟨#[32, 58, 45, 32]⟩ m w (by omega) hm).mono fun e w' ⟨he, n, hw⟩ => ⟨he, ?_⟩
    rw [hw]; exact drewN_below _ _
  have HNO : Hid (rqOk s.data.toList = false → ∀ w0 w', Below w0.heap.size w0 w' → GaveRQ s.data.toList w0 (.returned (.tuple #[.agg #[.slice none 0 0, .slice none 0 0], .bool false])) w') := by
    intro hx w0 w' hb
    refine ⟨_, [], by rw [hx], ?_, freshNil _ _, hb⟩
    rw [rq_no hx]; exact zeroQueryO _
  have HYES : Hid (rqOk s.data.toList = true → ∀ w0 w' v bs, ROQuery w' v (rqVal s.data.toList) bs ∧ Fresh w0 w' bs ∧ Below w0.heap.size w0 w' → GaveRQ s.data.toList w0 (.returned (.tuple #[v, .bool true])) w') := by
    intro hx w0 w' v bs ⟨h1, h2, h3⟩
    refine ⟨v, bs, by rw [hx], ?_, h2, h3⟩
    unfold rqRes; rw [if_pos hx]; exact h1
  have HE := Lib.hid he
  have hb0 : Below w.heap.size w (w.alloc (.cells #[.slice none 0 0, .slice none 0 0] 28)) := (Below.refl _ _).alloc (Nat.le_refl _) _
  have HB0 := Lib.hid hb0
  have HE0 := Lib.hid (he.below hb0)
  cases hf : (qCut s.data.toList).2.2 with
  | false =>
    have HN := Lib.hid (HNO.out (by unfold rqOk; rw [hf]; rfl))
    rw [hf] at H2
    clear HNO HYES he hb0 hs hz hlen hf
    generalize (qCut s.data.toList).1 = HH at *
    generalize (qCut s.data.toList).2.1 = LL at *
    go_enter Tryz.func20, Tryz.ntmps20
    go_wp2_with fail
    refine (H2.out _ HE0.out.2).mono ?_
    rintro e w2 ⟨rfl, hb⟩
    have HB2 := Lib.hid (bnext HB0.out hb)
    have kr0 := cellk hb (b := w.heap.size) (o := 0) (v := .slice none 0 0) (by simp)
    have kr1 := cellk hb (b := w.heap.size) (o := 1) (v := .slice none 0 0) (by simp)
    have kf0 : w2.frozen? ⟨w.heap.size, 0, none⟩ = false := frok hb (v := .slice none 0 0) (by simp) (by simp)
    have kf1 : w2.frozen? ⟨w.heap.size, 1, none⟩ = false := frok hb (v := .slice none 0 0) (by simp) (by simp)
    clear hb
    go_wp2_with fail
    exact bodyPost_ret (v := .tuple #[.agg #[.slice none 0 0, .slice none 0 0], .bool false]) (by simp [results, Tryz.results20, go_sem, kr0, kr1]) rfl (HN.out _ _ ((HB2.out.setCell (by simp) _).setCell (by simp) _))
  | true =>
    rw [hf] at H2
    have H3 := Lib.hid (fun w h => iReadHead_any (bs (qCut s.data.toList).1) w (by rw [bs_size]; omega) h)
    rw [bs_data] at H3
    unfold GaveRH at H3
    cases hh : qHeadOk (qCut s.data.toList).1 with
    | false =>
      have HN := Lib.hid (HNO.out (by unfold rqOk; rw [hf, hh]; rfl))
      rw [hh] at H3
      clear HNO HYES he hb0 hs hz hlen hf hh
      generalize (qCut s.data.toList).1 = HH at *
      generalize (qCut s.data.toList).2.1 = LL at *
      go_enter Tryz.func20, Tryz.ntmps20
      go_wp2_with fail
      refine (H2.out _ HE0.out.2).mono ?_
      rintro e w2 ⟨rfl, hb⟩
      have HB2 := Lib.hid (bnext HB0.out hb)
      have HE2 := Lib.hid (HE0.out.below hb)
      have kr0 := cellk hb (b := w.heap.size) (o := 0) (v := .slice none 0 0) (by simp)
      have kr1 := cellk hb (b := w.heap.size) (o := 1) (v := .slice none 0 0) (by simp)
      have kf0 : w2.frozen? ⟨w.heap.size, 0, none⟩ = false := frok hb (v := .slice none 0 0) (by simp) (by simp)
      have kf1 : w2.frozen? ⟨w.heap.size, 1, none⟩ = false := frok hb (v := .slice none 0 0) (by simp) (by simp)
      clear hb
      go_wp2_with fail
      refine (H3.out _ HE2.out).mono ?_
      rintro e w3 ⟨a, n, c, bs', rfl, ho, hf, hb⟩
      have HB3 := Lib.hid (bnext HB2.out hb)
      replace kf0 := frok hb kr0 kf0
      replace kf1 := frok hb kr1 kf1
      replace kr0 := cellk hb kr0
      replace kr1 := cellk hb kr1
      clear hb ho hf
      go_wp2_with fail
      exact bodyPost_ret (v := .tuple #[.agg #[.slice none 0 0, .slice none 0 0], .bool false]) (by simp [results, Tryz.results20, go_sem, kr0, kr1]) rfl (HN.out _ _ ((HB3.out.setCell (by simp) _).setCell (by simp) _))
    | true =>
      have hrh : rhVal (qCut s.data.toList).1 = qHeadVal (qCut s.data.toList).1 := by unfold rhVal; rw [if_pos hh]
      have hzz : rqOk s.data.toList = (qParts s.data.toList).all paOk := by unfold rqOk; rw [hf, hh]; rfl
      have hvv : rqVal s.data.toList = (rhVal (qCut s.data.toList).1, (qParts s.data.toList).map paRes) := by unfold rqVal; rw [hrh]
      rw [hvv] at HYES
      rw [hzz] at HYES HNO
      rw [hh] at H3
      obtain ⟨P, hP⟩ : ∃ P, Lib.splitB ⟨#[59, 32]⟩ 0 (min 4 ((bs (qCut s.data.toList).2.1).size + 1) - 1) (bs (qCut s.data.toList).2.1) = P := ⟨_, rfl⟩
      have hPd : P.map (·.data.toList) = qParts s.data.toList := by
        rw [← hP, Lib.splitB_data]; unfold qParts Lib.splitN; rw [bs_size]
      have hPd2 : P.map (·.data.toList) = Lib.splitK [59, 32] 0 (min 4 ((qCut s.data.toList).2.1.length + 1) - 1) (qCut s.data.toList).2.1 := hPd
      have hP4 : P.length ≤ 4 := by have := Lib.splitB_length_le ⟨#[59, 32]⟩ 0 (min 4 ((bs (qCut s.data.toList).2.1).size + 1) - 1) (bs (qCut s.data.toList).2.1); rw [hP] at this; omega
      obtain ⟨HPs, hPl, hPa⟩ := P_facts _ _ _ P hPd2 (by omega)
      have hPN : P.length ≤ min 4 ((bs (qCut s.data.toList).2.1).size + 1) := by have := Lib.splitB_length_le ⟨#[59, 32]⟩ 0 (min 4 ((bs (qCut s.data.toList).2.1).size + 1) - 1) (bs (qCut s.data.toList).2.1); rw [hP] at this; omega
      have H5 : Hid (∀ w, MaxL w → Calls Tryz.prog 37 #[.string (bs (qCut s.data.toList).2.1), .string ⟨#[59, 32]⟩, .int .i64 4] w fun e w' => e = .returned (.slice (some ⟨w.heap.size, 0, none⟩) P.length (min 4 ((bs (qCut s.data.toList).2.1).size + 1))) ∧ w' = w.alloc (.cells (Lib.cellsOf P (min 4 ((bs (qCut s.data.toList).2.1).size + 1))) 9)) := by
        intro w ⟨m, hm⟩
        have := Tryz.strings_SplitN (bs (qCut s.data.toList).2.1) ⟨#[59, 32]⟩ 4 m w (by rw [bs_size]; omega) hm (by decide) (by omega) (by omega)
        rw [hP] at this
        exact this
      change P.length = (qParts s.data.toList).length at hPl
      change ∀ j, j < P.length → (P.getD j ByteArray.empty).data.toList = (qParts s.data.toList).getD j [] at hPa
      generalize min 4 ((bs (qCut s.data.toList).2.1).size + 1) = N at *
      obtain ⟨Q, hQ⟩ : ∃ Q, qParts s.data.toList = Q := ⟨_, rfl⟩
      rw [hQ] at HNO HYES hPl hPa hPd
      generalize hHH : (qCut s.data.toList).1 = HH at *
      generalize (qCut s.data.toList).2.1 = LL at *
      generalize s.data.toList = S at *
      obtain ⟨n, hn⟩ : ∃ n, P.length = n := ⟨_, rfl⟩
      rw [hn] at H5 hP4 hPl hPN
      generalize rhVal HH = HV at *
      have HPL := Lib.hid hn
      have HQL := Lib.hid hPl
      have HPA := Lib.hid hPa
      have HPS := Lib.hid HPs
      have HPN := Lib.hid hPN
      clear he hb0 hs hz hlen hf hh hrh hzz hvv hPd hPd2 hPa HPs hPl hn hPN hQ hP hHH
      go_enter Tryz.func20, Tryz.ntmps20
      go_wp2_with fail
      refine (H2.out _ HE0.out.2).mono ?_
      rintro e w2 ⟨rfl, hb⟩
      have HB2 := Lib.hid (bnext HB0.out hb)
      have HE2 := Lib.hid (HE0.out.below hb)
      have kr0 := cellk hb (b := w.heap.size) (o := 0) (v := .slice none 0 0) (by simp)
      have kr1 := cellk hb (b := w.heap.size) (o := 1) (v := .slice none 0 0) (by simp)
      have kf0 : w2.frozen? ⟨w.heap.size, 0, none⟩ = false := frok hb (v := .slice none 0 0) (by simp) (by simp)
      have kf1 : w2.frozen? ⟨w.heap.size, 1, none⟩ = false := frok hb (v := .slice none 0 0) (by simp) (by simp)
      clear hb
      have HLW := Lib.hid (World.block_lt_of_cell? w2 _ kr0)
      go_wp2_with fail
      refine (H3.out _ HE2.out).mono ?_
      rintro e w3 ⟨ha, hn0, hc0, bsh, rfl, hoh, hfh, hb⟩
      have HB3 := Lib.hid (bnext HB2.out hb)
      have HE3 := Lib.hid (HE2.out.below hb)
      have HOH := Lib.hid hoh
      have HFH := Lib.hid hfh
      have HS23 := Lib.hid hb.size
      replace kf0 := frok hb kr0 kf0
      replace kf1 := frok hb kr1 kf1
      replace kr0 := cellk hb kr0
      replace kr1 := cellk hb kr1
      clear hb hoh hfh
      go_wp2_with fail
      refine (H5.out _ HE3.out.2).mono ?_
      rintro e w5 ⟨rfl, rfl⟩
      obtain ⟨W, hW⟩ : ∃ W, W = w3.alloc (.cells (Lib.cellsOf P N) 9) := ⟨_, rfl⟩
      rw [← hW]
      have hbW : Below w3.heap.size w3 W := by rw [hW]; exact below_alloc _ _
      have HKP : Hid (∀ j, j < n → W.cell? ⟨w3.heap.size, j, none⟩ = some (.string (P.getD j ByteArray.empty))) := by
        intro j hj
        have := HPL.out
        rw [hW, World.cell?_alloc_at _ _ _ _ rfl]
        unfold Lib.cellsOf
        simp [List.getElem?_append_left, List.getD, this, hj]
      have HBW := Lib.hid (bnext HB3.out hbW)
      have HEW := Lib.hid (HE3.out.below hbW)
      have HOW := Lib.hid (HOH.out.below hbW)
      have HWs := Lib.hid hbW.size
      replace kf0 := frok hbW kr0 kf0
      replace kf1 := frok hbW kr1 kf1
      replace kr0 := cellk hbW kr0
      replace kr1 := cellk hbW kr1
      clear hbW hW
      go_wp2_with (at_make; refine wpList_make_C rfl (.tmp 35) (.tmp 35) 26 rfl 43 (.agg #[.int .i64 0, .slice none 0 0]) 2 32 Tryz.underlying26 info_Atom (by decide) (by decide) (Below.refl _ W) .i64 .i64 n rfl rfl (by omega) ?_)
      intro w6 hb6
      have HB6 : Hid (PartA 43 W w6 W.heap.size n [] []) := PartA.made hb6
      have HR0 := Lib.hid kr0
      have HR1 := Lib.hid kr1
      have HF0 := Lib.hid kf0
      have HF1 := Lib.hid kf1
      clear hb6 kr0 kr1 kf0 kf1
      go_wp2_with fail
      go_loopw [39] (fun iv wr => ∃ i : Nat, i ≤ n ∧ iv = .int .i64 i ∧ ∃ bss, Hid (PartA 43 W wr W.heap.size n ((Q.take i).map paRes) bss) ∧ Hid (∀ j, j < i → paOk (Q.getD j []) = true)) (fun iv _ => n - (intOf iv).toNat)
      case atStart => exact ⟨0, by omega, rfl, [], by simpa using HB6, fun j hj => by omega⟩
      case round =>
        obtain ⟨i, hi, rfl, bss, HP, HY⟩ := hrel
        have HBB := Lib.hid (HP.out.below)
        have kr0 := cellk HBB.out HR0.out
        have kr1 := cellk HBB.out HR1.out
        have kf0 := frok HBB.out HR0.out HF0.out
        have kf1 := frok HBB.out HR1.out HF1.out
        by_cases hlt : i < n
        · have c1 := cellk HBB.out (HKP.out i hlt)
          have hi0 : (0 : Int) ≤ i := by omega
          have hi1 : (i : Int) < n := by omega
          have hct := iParseAtom_any (P.getD i ByteArray.empty) wr (HPS.out i (by rw [HPL.out]; exact hlt)) (HEW.out.below HBB.out)
          rw [HPA.out i (by rw [HPL.out]; exact hlt)] at hct
          unfold GavePA at hct
          have HC := Lib.hid hct
          generalize P.getD i ByteArray.empty = p at *
          have hil : i < Q.length := by rw [← HQL.out]; exact hlt
          have HX : Hid (paOk (Q.getD i []) = false → Q.all paOk = false) := fun e => by
            rw [Bool.eq_false_iff]; intro hc
            have := List.all_eq_true.1 hc (Q.getD i []) (by rw [List.getD_eq_getElem?_getD, List.getElem?_eq_getElem hil]; exact List.getElem_mem hil)
            rw [e] at this; cases this
          have HY2 : Hid (paOk (Q.getD i []) = true → ∀ j, j < i + 1 → paOk (Q.getD j []) = true) := fun e j hj => by
            rcases Nat.lt_or_ge j i with h | h
            · exact HY.out j h
            · obtain rfl : j = i := by omega
              exact e
          have HTK : Hid ((Q.take (i + 1)).map paRes = (Q.take i).map paRes ++ [((paRes (Q.getD i [])).1, (paRes (Q.getD i [])).2)]) := by
            unfold Hid
            have hg : Q.getD i [] = Q[i] := by simp [List.getD, List.getElem?_eq_getElem hil]
            rw [List.take_succ_eq_append_getElem hil, List.map_append, hg]; rfl
          have HLEN : Hid (((Q.take i).map paRes).length = i) := by unfold Hid; simp; omega
          clear hct hil
          generalize Q.getD i [] = q at *
          generalize hL : (Q.take i).map paRes = L at *
          clear hL
          cases hq : paOk q with
          | true =>
            rw [hq] at HC
            clear HX
            have HY3 := Lib.hid (HY2.out hq)
            clear HY2 hq
            go_wp2_with fail
            refine HC.out.mono ?_
            rintro e w7 ⟨v, bs7, rfl, ⟨a7, n7, c7, rfl, hr7, ho7⟩, hf7, hb⟩
            have HI7 := Lib.hid hr7
            generalize (paRes q).1 = r7 at *
            generalize (paRes q).2 = l7 at *
            have hal : Below w7.heap.size w7 (w7.alloc (.cells #[.int .i64 r7, .slice a7 n7 c7] 43)) := below_alloc _ _
            have HNEW := Lib.hid (PartA.step HP.out HLEN.out hlt (bnext hb hal) (ho7.below hal) (hf7.wide (Nat.le_refl _) hal.size) HI7.out)
            obtain ⟨pu, pv, p0, p1⟩ := (HP.out.grow (bnext hb hal)).cells i hlt
            have p2 := (HP.out.grow (bnext hb hal)).frozen (i * 2)
            have p3 := (HP.out.grow (bnext hb hal)).frozen (i * 2 + 1)
            clear hb hal ho7 hf7 hr7 c1 kr0 kr1 kf0 kf1
            go_wp2_with fail
            exact ⟨⟨i + 1, by omega, by simp, _, by rw [HTK.out]; exact HNEW.out, HY3⟩, by simp [intOf]; omega⟩
          | false =>
            rw [hq] at HC
            have HN := Lib.hid (HNO.out (HX.out hq))
            clear HX HY2 hq
            go_wp2_with fail
            refine HC.out.mono ?_
            rintro e w7 ⟨v, bs7, rfl, ⟨a7, n7, c7, rfl, hr7, ho7⟩, hf7, hb⟩
            generalize (paRes q).1 = r7 at *
            have hal : Below w7.heap.size w7 (w7.alloc (.cells #[.int .i64 r7, .slice a7 n7 c7] 43)) := below_alloc _ _
            have HB7 := Lib.hid (bnext HBW.out (bnext HBB.out (bnext hb hal)))
            have hbl := bnext hb hal
            replace kf0 := frok hbl kr0 kf0
            replace kf1 := frok hbl kr1 kf1
            replace kr0 := cellk hbl kr0
            replace kr1 := cellk hbl kr1
            clear hb hbl hal c1 ho7 hf7 hr7
            go_wp2_with fail
            exact bodyPost_ret (v := .tuple #[.agg #[.slice none 0 0, .slice none 0 0], .bool false]) (by simp [results, Tryz.results20, go_sem, kr0, kr1]) rfl (HN.out _ _ ((HB7.out.setCell (by simp) _).setCell (by simp) _))
        · obtain rfl : i = n := by omega
          have HQA : Hid (Q.all paOk = true) := by
            unfold Hid
            rw [List.all_eq_true]
            intro x hx
            obtain ⟨j, hj, rfl⟩ := List.mem_iff_getElem.1 hx
            have := HY.out j (by rw [HQL.out]; exact hj)
            rwa [List.getD_eq_getElem?_getD, List.getElem?_eq_getElem hj] at this
          have hp := HP.out
          rw [show i = Q.length from HQL.out, List.take_of_length_le (Nat.le_refl _), ← HQL.out] at hp
          obtain ⟨bsb, ⟨ba, bn, bc, eb, hob⟩, hfb⟩ := hp.done (by rw [List.length_map]; exact HQL.out.symm)
          cases eb
          have HOB := Lib.hid hob
          have HFB := Lib.hid hfb
          clear hp hob hfb
          go_wp2_with fail
          refine bodyPost_ret (v := .tuple #[.agg #[.slice ha hn0 hc0, .slice (some ⟨W.heap.size, 0, none⟩) i i], .bool true]) (by simp [results, Tryz.results20, go_sem, kr0, kr1]) rfl ?_
          refine HYES.out HQA.out _ _ _ _ (own2_done (d := (HV, Q.map paRes)) (g := w.heap.size) (B := w2.heap.size) (M := W.heap.size) HLW.out (Nat.le_refl _) HB2.out.size (Nat.le_trans HS23.out HWs.out) (bnext HBW.out HBB.out) (HOW.out.below HBB.out) HOB.out HFH.out.1 HFB.out.1 (fun b hb => ⟨(HFH.out.2 b hb).1, Nat.lt_of_lt_of_le (HFH.out.2 b hb).2 HWs.out⟩) HFB.out.2 HBB.out.size)

/-- A query read from a box is laid into an older box g. -/
theorem roq_box {w wL : World} {v : Value} {d : QueryD} {bs : List Nat} {g : Nat} {u u' : Value} (hg : w.heap.size ≤ g) (h : ROQuery wL v d bs) (hb : ∀ b ∈ bs, g < b ∧ b < wL.heap.size) (hnd : bs.Nodup) (hl : Below w.heap.size w wL) :
    ROQuery ((wL.setCell ⟨g, 0, none⟩ u).setCell ⟨g, 1, none⟩ u') v d bs ∧ Fresh w ((wL.setCell ⟨g, 0, none⟩ u).setCell ⟨g, 1, none⟩ u') bs ∧ Below w.heap.size w ((wL.setCell ⟨g, 0, none⟩ u).setCell ⟨g, 1, none⟩ u') := by
  have k : OnlyAt [g] wL ((wL.setCell ⟨g, 0, none⟩ u).setCell ⟨g, 1, none⟩ u') := (OnlyAt.setCell _ _ _ _).same (OnlyAt.setCell _ _ _ _)
  have hs : ((wL.setCell ⟨g, 0, none⟩ u).setCell ⟨g, 1, none⟩ u').heap.size = wL.heap.size := by simp [World.setCell]
  obtain ⟨a, n, c, a', n', c', rfl, b1, b2, h1, h2, rfl⟩ := h
  refine ⟨⟨a, n, c, a', n', c', rfl, b1, b2, ?_, ?_, rfl⟩, ⟨hnd, fun b hx => ?_⟩, OnlyAt.below hl k (fun x hx => by simp at hx; omega)⟩
  · exact h1.onlyAt k (fun b hx hm => by simp at hm; have := (hb b (List.mem_append_left _ hx)).1; omega)
  · exact h2.onlyAt k (fun b hx hm => by simp at hm; have := (hb b (List.mem_append_right _ hx)).1; omega) (fun _ _ _ hn h => h.onlyAt hn k)
  · rw [hs]; have := hb b hx; omega
def GavePQO (s : List Int) (l : List UInt8) (w : World) (e : Ending) (w' : World) : Prop := ∃ v bs, e = .returned (.tuple #[v, .bool (pqOk s l)]) ∧ ROQuery w' v (pqRes s l) bs ∧ Fresh w w' bs ∧ Below w.heap.size w w'
theorem pq_no {s : List Int} {l : List UInt8} (h : pqOk s l = false) : pqRes s l = ([], []) := by
  unfold pqOk at h
  unfold pqRes
  cases hf : firstSep l with
  | none => rfl
  | some i => rw [hf] at h; simp only at h ⊢; rw [h]; rfl

set_option maxRecDepth 100000 in
set_option maxHeartbeats 4000000 in
theorem iParseQuery_any (w : World) (vs : Value) (s : List Int) (x : ByteArray) (hvs : RdSchema w vs s) (hs : x.size ≤ 1048576) (he : EnvS w) :
    Calls Tryz.prog 7 #[vs, .string x] w (GavePQO s x.data.toList w) := by
  have HA := Lib.hid (fun w h => iReadQuery_any x w hs h)
  have HS := Lib.hid hvs
  obtain ⟨sa, sn, sc, rfl, hs2⟩ := hvs
  have hI := Lib.hid (fun w v d h h' => iIsQuery_core w (.agg #[.slice sa sn sc]) v s d h h')
  obtain ⟨e1, e2⟩ := pq_eq_rq s x.data.toList
  have HNO : Hid (pqOk s x.data.toList = false → ∀ w0 w', Below w0.heap.size w0 w' → GavePQO s x.data.toList w0 (.returned (.tuple #[.agg #[.slice none 0 0, .slice none 0 0], .bool false])) w') := by
    intro hx w0 w' hb
    refine ⟨_, [], by rw [hx], ?_, freshNil _ _, hb⟩
    rw [pq_no hx]; exact zeroQueryO _
  have hb0 : ∀ o p, Below w.heap.size w ((w.alloc o).alloc p) := fun o p => ((Below.refl _ _).alloc (Nat.le_refl _) _).alloc (by simp) _
  have HB0 := Lib.hid hb0
  have HE := Lib.hid he
  unfold GaveRQ at HA
  cases hok : rqOk x.data.toList with
  | false =>
    have HN := Lib.hid (HNO.out (by rw [e1, hok]; rfl))
    rw [hok] at HA
    clear e1 e2 hok hb0 he HNO hs hs2
    go_enter Tryz.func7, Tryz.ntmps7
    go_wp2_with fail
    refine (HA.out _ (HE.out.below (HB0.out _ _))).mono ?_
    rintro e w1 ⟨v, bs', rfl, hro, hfre, hb⟩
    obtain ⟨a, n, c, a', n', c', rfl, _⟩ := hro
    have HB1 := Lib.hid (bnext (HB0.out _ _) hb)
    have hal := below_alloc w1 (.cells #[.slice a n c, .slice a' n' c'] 28)
    have HB2 := Lib.hid (bnext HB1.out hal)
    have kr0 := cellk hal (cellk hb (b := w.heap.size + 1) (o := 0) (v := .slice none 0 0) (by simp))
    have kr1 := cellk hal (cellk hb (b := w.heap.size + 1) (o := 1) (v := .slice none 0 0) (by simp))
    have kf0 := frok hal (cellk hb (b := w.heap.size + 1) (o := 0) (v := .slice none 0 0) (by simp)) (frok hb (b := w.heap.size + 1) (o := 0) (v := .slice none 0 0) (by simp) (by simp))
    have kf1 := frok hal (cellk hb (b := w.heap.size + 1) (o := 1) (v := .slice none 0 0) (by simp)) (frok hb (b := w.heap.size + 1) (o := 1) (v := .slice none 0 0) (by simp) (by simp))
    clear hb hfre hal
    go_wp2_with fail
    exact bodyPost_ret (v := .tuple #[.agg #[.slice none 0 0, .slice none 0 0], .bool false]) (by simp [results, Tryz.results7, go_sem, kr0, kr1]) rfl (HN.out _ _ ((HB2.out.setCell (by simp) _).setCell (by simp) _))
  | true =>
    obtain ⟨q, hq⟩ : ∃ q, fineB s (rqVal x.data.toList) 4 = q := ⟨_, rfl⟩
    have hq2 : pqOk s x.data.toList = q := by rw [e1, hok, hq]; rfl
    have hres : rqRes x.data.toList = rqVal x.data.toList := by unfold rqRes; rw [if_pos hok]
    rw [hok, hres] at HA
    have HYES : Hid (q = true → ∀ w0 w' v bs, ROQuery w' v (rqVal x.data.toList) bs ∧ Fresh w0 w' bs ∧ Below w0.heap.size w0 w' → GavePQO s x.data.toList w0 (.returned (.tuple #[v, .bool true])) w') := by
      intro hx w0 w' v bs ⟨h1, h2, h3⟩
      rw [← hq2] at hx
      refine ⟨v, bs, by rw [hx], ?_, h2, h3⟩
      rw [e2 hx]; exact h1
    have hcI := Lib.hid (fun w v h h' => hI.out w v (rqVal x.data.toList) h h')
    rw [hq] at hcI
    rw [hq2] at HNO
    clear e1 e2 hok hb0 he hs hs2 hI hres hq hq2
    generalize rqVal x.data.toList = D at *
    cases q
    all_goals
      go_enter Tryz.func7, Tryz.ntmps7
      go_wp2_with fail
      refine (HA.out _ (HE.out.below (HB0.out _ _))).mono ?_
      rintro e w1 ⟨v, bs', rfl, hro, hfre, hb⟩
      have HRO := Lib.hid hro
      obtain ⟨a, n, c, a', n', c', rfl, _⟩ := hro
      have HB1 := Lib.hid (bnext (HB0.out _ _) hb)
      have hal := below_alloc w1 (.cells #[.slice a n c, .slice a' n' c'] 28)
      have HAL := Lib.hid hal
      have HB2 := Lib.hid (bnext HB1.out hal)
      have HFR := Lib.hid hfre
      have ks := cellk hal (cellk hb (b := w.heap.size) (o := 0) (v := .slice sa sn sc) (by simp))
      have kr0 := cellk hal (cellk hb (b := w.heap.size + 1) (o := 0) (v := .slice none 0 0) (by simp))
      have kr1 := cellk hal (cellk hb (b := w.heap.size + 1) (o := 1) (v := .slice none 0 0) (by simp))
      have kf0 := frok hal (cellk hb (b := w.heap.size + 1) (o := 0) (v := .slice none 0 0) (by simp)) (frok hb (b := w.heap.size + 1) (o := 0) (v := .slice none 0 0) (by simp) (by simp))
      have kf1 := frok hal (cellk hb (b := w.heap.size + 1) (o := 1) (v := .slice none 0 0) (by simp)) (frok hb (b := w.heap.size + 1) (o := 1) (v := .slice none 0 0) (by simp) (by simp))
      clear hb hfre hal
      go_wp2_with fail
      refine (hcI.out _ _ (HS.out.below HB2.out) (HRO.out.rd.below HAL.out)).mono ?_
      rintro e w3 ⟨rfl, hb⟩
      have HB3 := Lib.hid (bnext HB2.out hb)
      have HRO3 := Lib.hid (HRO.out.below (bnext HAL.out hb))
      have HSZ := Lib.hid (bnext HAL.out hb).size
      have kx0 := cellk hb (b := w1.heap.size) (o := 0) (v := .slice a n c) (by simp)
      have kx1 := cellk hb (b := w1.heap.size) (o := 1) (v := .slice a' n' c') (by simp)
      replace kf0 := frok hb kr0 kf0
      replace kf1 := frok hb kr1 kf1
      replace kr0 := cellk hb kr0
      replace kr1 := cellk hb kr1
      clear hb ks
      go_wp2_with fail
    · exact bodyPost_ret (v := .tuple #[.agg #[.slice none 0 0, .slice none 0 0], .bool false]) (by simp [results, Tryz.results7, go_sem, kr0, kr1]) rfl (HNO.out (by trivial) _ _ ((HB3.out.setCell (by simp) _).setCell (by simp) _))
    · refine bodyPost_ret (v := .tuple #[.agg #[.slice a n c, .slice a' n' c'], .bool true]) (by simp [results, Tryz.results7, go_sem, kr0, kr1]) rfl ?_
      refine HYES.out (by trivial) _ _ _ bs' (roq_box (by omega) HRO3.out (fun b hb => ⟨?_, ?_⟩) HFR.out.1 HB3.out)
      · have := HFR.out.lo b hb; simp at this; omega
      · have := (HFR.out.2 b hb).2; have := HSZ.out; omega
end Go.Proofs.YtchcifikopmfoaaGreatDoor
