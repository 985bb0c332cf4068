/- Contracts of impl's FormatKey, readKey, ParseKey. -/
import Derived.Test.YtnbljidjbknleaaDoorK12
import Derived.Test.YtnbljidjbknleaaDoorI12a
import Derived.Test.YtnbljidjbknleaaDoorIpread
import Derived.Lib.QuietBelow
namespace Go.Proofs.YtnbljidjbknleaaDoor
open Go Go.Sort Go.RowKit
set_option linter.unusedVariables false

theorem fkey_pl {r : Int} {l : List Int} (h1 : inB r 0 3 = true) : fkey r l = if (inB l.length 1 3 && upB (3 - 1) l) then 107 :: 101 :: 121 :: 32 :: 114 :: (Lib.itoa r ++ 32 :: nlist 32 l) else [] := by
  by_cases h : (inB l.length 1 3 && upB (3 - 1) l) = true
  · rw [if_pos h]
    rw [Bool.and_eq_true] at h
    have h2 : 1 ≤ (l.length : Int) ∧ (l.length : Int) ≤ 3 := of_decide_eq_true h.1
    rw [fkey_4 h1 h.1 (fun j hj => List.all_eq_true.1 h.2 _ (getD_mem hj)), ktail_jn (by omega)]; rfl
  · rw [if_neg h]
    rw [Bool.not_eq_true] at h
    unfold fkey
    have e : upB (3 - 1) l = l.all plB := rfl
    rw [e] at h
    rw [h, Bool.and_false]; rfl
set_option maxRecDepth 100000 in
set_option maxHeartbeats 4000000 in
theorem iFormatKey_any (w : World) (r : Int) (v : Value) (l : List Int) (hr : inI r) (h : Ints w v l) (he : Tab w) :
    Calls Tryd.prog 23 #[.agg #[.int .i64 r, v]] w (GaveV (.string (bs (fkey r l))) w) := by
  have HINT := Lib.hid h
  obtain ⟨a, n, cap, rfl, hl, hn, hm, hcell⟩ := h.cases
  unfold maxLen at hm
  have hb0 : ∀ a, Below w.heap.size w (w.alloc a) := fun a => (Below.refl _ _).alloc (Nat.le_refl _) _
  have HB0 := Lib.hid hb0
  have HI := Lib.hid h.1
  have HE := Lib.hid he
  have HR := Lib.hid hr
  have HL := Lib.hid hl
  clear h hcell hl hb0 he hr
  by_cases hr0 : r < 0
  · have HQ := Lib.hid (fkey_1 (l := l) (r := r) (decide_eq_false (by omega)))
    go_enter Tryd.func23, Tryd.ntmps23
    go_wp2_with fail
    go_ret
    exact ⟨ret_str' (by rw [HQ.out]), HB0.out _⟩
  by_cases hr4 : 4 ≤ r
  · have HQ := Lib.hid (fkey_1 (l := l) (r := r) (decide_eq_false (by omega)))
    go_enter Tryd.func23, Tryd.ntmps23
    go_wp2_with fail
    go_ret
    exact ⟨ret_str' (by rw [HQ.out]), HB0.out _⟩
  have hQ0 := fkey_pl (l := l) (r := r) (decide_eq_true (by omega))
  have hP := Lib.hid (fun w h => iPlaces_any w 3 (.slice a n cap) l (by unfold inI; omega) (by omega) h)
  obtain ⟨q, hq⟩ : ∃ q, (inB l.length 1 3 && upB (3 - 1) l) = q := ⟨_, rfl⟩
  rw [hq] at hQ0 hP
  have HLEN : Hid (q = true → l.length ≤ 1000) := fun h => by
    rw [← hq, Bool.and_eq_true] at h
    have h2 : 1 ≤ (l.length : Int) ∧ (l.length : Int) ≤ 3 := of_decide_eq_true h.1
    omega
  clear hq
  cases q with
  | false =>
    have HQ : Hid (fkey r l = []) := by unfold Hid; rw [hQ0]; rfl
    clear hQ0 HLEN
    generalize fkey r l = FK at *
    go_enter Tryd.func23, Tryd.ntmps23
    go_wp2_with fail
    refine (hP.out _ (HINT.out.below (HB0.out _))).mono ?_
    rintro e w1 ⟨rfl, rfl⟩
    go_wp2_with fail
    go_ret
    exact ⟨ret_str' (by rw [HQ.out]), HB0.out _⟩
  | true =>
    have HQ : Hid (fkey r l = 107 :: 101 :: 121 :: 32 :: 114 :: (Lib.itoa r ++ 32 :: nlist 32 l)) := by unfold Hid; rw [hQ0]; rfl
    have hlen := HLEN.out rfl
    have hz2 : (nlist 32 l).length ≤ 101000 := by have := nlist_le 32 l HI.out; omega
    have hz1 : (Lib.itoa r).length ≤ 100 := by have := Lib.itoa_length_le r HR.out.1 HR.out.2; omega
    have hR := Lib.hid (fun w h => iRelText_any r w HR.out h)
    have hJ := Lib.hid (fun w b h => iJoinNum_any w (.slice a n cap) l 32 b hlen h)
    clear hQ0 HLEN hlen
    generalize Lib.itoa r = FI at *
    generalize nlist 32 l = FL at *
    generalize fkey r l = FK at *
    go_enter Tryd.func23, Tryd.ntmps23
    go_wp2_with fail
    refine (hP.out _ (HINT.out.below (HB0.out _))).mono ?_
    rintro e w1 ⟨rfl, rfl⟩
    obtain ⟨W, hW⟩ : ∃ W, W = w.alloc (.cells #[.int .i64 r, .slice a n cap] 33) := ⟨_, rfl⟩
    have c0 : W.cell? ⟨w.heap.size, 0, none⟩ = some (.int .i64 r) := by rw [hW]; simp
    have c1 : W.cell? ⟨w.heap.size, 1, none⟩ = some (.slice a n cap) := by rw [hW]; simp
    have HBW : Hid (Below w.heap.size w W) := by rw [hW]; exact HB0.out _
    rw [← hW]
    have k0 := cell_regrown (w := W) c0
    have k1 := cell_regrown (w := W) c1
    have HSW := Lib.hid (fun d os => HINT.out.below (HBW.out.trans ((below_regrown W d os).mono HBW.out.size)))
    have HEW := Lib.hid (fun d os => HE.out.below (HBW.out.trans ((below_regrown W d os).mono HBW.out.size)))
    clear hW c0 c1 hP
    go_wp2_with fail
    refine wp_region_quiet_below (by kernel_rfl) (by kernel_rfl) ?_
    repeat (any_goals (first | go_big_quiet_step ((first | (go_at_call 51; exact Calls.regrown_of (hR.out _ (HEW.out _ _))) | (go_at_call 52; exact Calls.regrown_of (hJ.out _ (HSW.out _ _) (HEW.out _ _))))) | quiet_step ((first | (go_at_call 51; exact Calls.regrown_of (hR.out _ (HEW.out _ _))) | (go_at_call 52; exact Calls.regrown_of (hJ.out _ (HSW.out _ _) (HEW.out _ _)))))))
    refine wpQuiet_nil ?_
    intro _ hw'
    obtain ⟨⟨dq, osq⟩, hw''⟩ := hw'
    subst hw''
    go_wp2_with fail
    go_ret
    exact ⟨ret_str' (by rw [HQ.out]; simp only [mk_bs']; simp), bnext HBW.out (below_regrown _ _ _)⟩

def rkRes (s : List UInt8) : Int × List Int := if rkOk s then rkVal s else (0, [])
def GaveRK (s : List UInt8) (w : World) (e : Ending) (w' : World) : Prop := ∃ v bs, e = .returned (.tuple #[v, .bool (rkOk s)]) ∧ ROAtom w' v (rkRes s) bs ∧ Fresh w w' bs ∧ Below w.heap.size w w'
set_option maxRecDepth 100000 in
set_option maxHeartbeats 8000000 in
theorem iReadKey_any (s : ByteArray) (w : World) (hs : s.size ≤ 1048576) (he : EnvS w) :
    Calls Tryd.prog 57 #[.string s] w (GaveRK s.data.toList w) := by
  have hb0 : Below w.heap.size w (w.alloc (.cells #[.int .i64 0, .slice none 0 0] 33)) := (Below.refl _ _).alloc (Nat.le_refl _) _
  have HB0 := Lib.hid hb0
  have HE0 := Lib.hid (he.below hb0)
  have hsl : s.data.toList.length = s.size := by simp
  have hz1 : (rkRest s.data.toList).length ≤ 1048576 := by have := trimPrefix_le s.data.toList [107, 101, 121, 32]; unfold rkRest; omega
  have hz2 : (rkCut s.data.toList).1.length ≤ 1048576 ∧ (rkCut s.data.toList).2.1.length ≤ 1048576 := by have := cut_le (rkRest s.data.toList) [32]; unfold rkCut; omega
  have H1 : Hid (∀ w, Calls Tryd.prog 76 #[.string s, .string ⟨#[107, 101, 121, 32]⟩] w fun e w' => e = .returned (.tuple #[.string (bs (rkRest s.data.toList)), .bool (Lib.hasPrefix s.data.toList [107, 101, 121, 32])]) ∧ w = w') :=
    fun w => (Tryd.strings_CutPrefix s ⟨#[107, 101, 121, 32]⟩ w).mono fun e w' ⟨he, hw⟩ => ⟨he, hw.symm⟩
  have H2 : Hid (∀ w, MaxL w → Calls Tryd.prog 77 #[.string (bs (rkRest s.data.toList)), .string ⟨#[32]⟩] w fun e w' => e = .returned (.tuple #[.string (bs (rkCut s.data.toList).1), .string (bs (rkCut s.data.toList).2.1), .bool (rkCut s.data.toList).2.2]) ∧ Below w.heap.size w w') := fun w hm => by
    obtain ⟨m, hm⟩ := hm
    refine (Tryd.strings_Cut (bs (rkRest s.data.toList)) ⟨#[32]⟩ m w (by rw [bs_size]; omega) hm).mono fun e w' ⟨he, n, hw⟩ => ⟨by rw [he, bs_data]; rfl, ?_⟩
    rw [hw]; exact drewN_below _ _
  have H3 : Hid (∀ w, Tab w → Calls Tryd.prog 78 #[.string (bs (rkCut s.data.toList).1)] w (GaveRR (rkCut s.data.toList).1 w)) := fun w h => by
    have := iReadRel_any (bs (rkCut s.data.toList).1) w (by rw [bs_size]; exact hz2.1) h
    rw [bs_data] at this; exact this
  have H4 : Hid (∀ w, EnvS w → Calls Tryd.prog 79 #[.string (bs (rkCut s.data.toList).2.1), .string ⟨#[32]⟩] w (GaveRN (rkCut s.data.toList).2.1 32 w)) := fun w h => by
    have := iReadNum_any (bs (rkCut s.data.toList).2.1) 32 w (by rw [bs_size]; exact hz2.2) h
    rw [bs_data] at this; exact this
  have HNO : Hid ((Lib.hasPrefix s.data.toList [107, 101, 121, 32] && (rrOk (rkCut s.data.toList).1 && rnOk (rkCut s.data.toList).2.1 32)) = false → ∀ w0 w', Below w0.heap.size w0 w' → GaveRK s.data.toList w0 (.returned (.tuple #[.agg #[.int .i64 0, .slice none 0 0], .bool false])) w') := by
    intro hx w0 w' hb
    have hx' : rkOk s.data.toList = false := hx
    refine ⟨_, [], by rw [hx'], ?_, freshNil _ _, hb⟩
    unfold rkRes; rw [hx']; exact zeroAtomO _
  have hri : inI (rrVal (rkCut s.data.toList).1) := by
    unfold rrVal
    split
    · exact sRes_inI _
    · unfold inI; omega
  have HYES : Hid ((Lib.hasPrefix s.data.toList [107, 101, 121, 32] && (rrOk (rkCut s.data.toList).1 && rnOk (rkCut s.data.toList).2.1 32)) = true → ∀ w0 w' a n c bs, OInts w' (.slice a n c) (rnVal (rkCut s.data.toList).2.1 32) bs → Fresh w0 w' bs → Below w0.heap.size w0 w' → GaveRK s.data.toList w0 (.returned (.tuple #[.agg #[.int .i64 (rrVal (rkCut s.data.toList).1), .slice a n c], .bool true])) w') := by
    intro hx w0 w' a n c bs ho hf hb
    have hx' : rkOk s.data.toList = true := hx
    refine ⟨_, bs, by rw [hx'], ?_, hf, hb⟩
    unfold rkRes
    rw [if_pos hx']
    exact ⟨a, n, c, rfl, hri, ho⟩
  unfold GaveRR at H3
  unfold GaveRN at H4
  clear hb0 he hs hsl hz1 hz2 hri
  generalize rrVal (rkCut s.data.toList).1 = R at *
  generalize rrOk (rkCut s.data.toList).1 = c2 at *
  generalize rnOk (rkCut s.data.toList).2.1 32 = c3 at *
  generalize rnVal (rkCut s.data.toList).2.1 32 = VV at *
  generalize (rkCut s.data.toList).2.2 = cc at *
  generalize (rkCut s.data.toList).2.1 = LL at *
  generalize (rkCut s.data.toList).1 = HH at *
  generalize rkRest s.data.toList = RR at *
  generalize Lib.hasPrefix s.data.toList [107, 101, 121, 32] = c1 at *
  generalize s.data.toList = S at *
  have hcase : (c1 = true ∧ c2 = true ∧ c3 = true) ∨ c1 = false ∨ (c1 = true ∧ c2 = false) ∨ (c1 = true ∧ c2 = true ∧ c3 = false) := by
    cases c1 <;> cases c2 <;> cases c3 <;> simp
  rcases hcase with ⟨rfl, rfl, rfl⟩ | rfl | ⟨rfl, rfl⟩ | ⟨rfl, rfl, rfl⟩
  all_goals
    go_enter Tryd.func57, Tryd.ntmps57
    go_wp2_with fail
    refine (H1.out _).mono ?_
    rintro e w1 ⟨rfl, rfl⟩
    go_wp2_with fail
    refine (H2.out _ HE0.out.2).mono ?_
    rintro e w2 ⟨rfl, hb2⟩
    have HE2 := Lib.hid (HE0.out.below hb2)
    have HB2 := Lib.hid hb2
    clear hb2
    go_wp2_with fail
    refine (H3.out _ HE2.out.1).mono ?_
    rintro e w3 ⟨rfl, hb3⟩
    have HE3 := Lib.hid (HE2.out.below hb3)
    have HB3 := Lib.hid (bnext HB2.out hb3)
    clear hb3
    go_wp2_with fail
    refine (H4.out _ HE3.out).mono ?_
    rintro e w4 ⟨v, bs', rfl, ho, hf, hb4⟩
    obtain ⟨va, vn, vc, rfl⟩ := ho.1.shape
    have hb := bnext HB3.out hb4
    have HB4 := Lib.hid (bnext HB0.out hb)
    have kr0 := cellk hb (b := w.heap.size) (o := 0) (v := .int .i64 0) (by simp)
    have kr1 := cellk hb (b := w.heap.size) (o := 1) (v := .slice none 0 0) (by simp)
    have kf0 : w4.frozen? ⟨w.heap.size, 0, none⟩ = false := frok hb (v := .int .i64 0) (by simp) (by simp)
    have kf1 : w4.frozen? ⟨w.heap.size, 1, none⟩ = false := frok hb (v := .slice none 0 0) (by simp) (by simp)
    have HO := Lib.hid ho
    have HF := Lib.hid hf
    have HS3 : Hid (w.heap.size + 1 ≤ w3.heap.size) := by have h5 := HB3.out.size; simp at h5; exact h5
    clear hb hb4 ho hf
    go_wp2_with fail
  · refine bodyPost_ret (v := .tuple #[.agg #[.int .i64 R, .slice va vn vc], .bool true]) (by simp [results, Tryd.results57, go_sem, kr0, kr1]) rfl ?_
    have hnb : ∀ b ∈ bs', w3.heap.size ≤ b := fun b hb => (HF.out.2 b hb).1
    have hlt2 : w.heap.size < w3.heap.size := HS3.out
    refine HYES.out rfl _ _ _ _ _ bs' ((HO.out.setCell hnb _ _ _ hlt2).setCell hnb _ _ _ hlt2) ⟨HF.out.1, fun b hb => ⟨?_, ?_⟩⟩ ((HB4.out.setCell (by simp) _).setCell (by simp) _)
    · have := hnb b hb; omega
    · have := (HF.out.2 b hb).2; simp [World.setCell]; exact this
  all_goals exact bodyPost_ret (v := .tuple #[.agg #[.int .i64 0, .slice none 0 0], .bool false]) (by simp [results, Tryd.results57, go_sem, kr0, kr1]) rfl (HNO.out (by simp) _ _ ((HB4.out.setCell (by simp) _).setCell (by simp) _))

def GaveKPi (s : List Int) (l : List UInt8) (w : World) (e : Ending) (w' : World) : Prop := ∃ v bs, e = .returned (.tuple #[v, .bool (kpOk s l)]) ∧ ROAtom w' v (kpRes s l) bs ∧ Fresh w w' bs ∧ Below w.heap.size w w'
set_option maxRecDepth 100000 in
set_option maxHeartbeats 4000000 in
theorem iParseKey_any (w : World) (vs : Value) (s : List Int) (x : ByteArray) (hvs : RdSchema w vs s) (hs : x.size ≤ 1048576) (he : EnvS w) :
    Calls Tryd.prog 28 #[vs, .string x] w (GaveKPi s x.data.toList w) := by
  obtain ⟨sa, sn, sc, rfl, hsi⟩ := hvs
  have hb0 : ∀ o p, Below w.heap.size w ((w.alloc o).alloc p) := fun o p => ((Below.refl _ _).alloc (Nat.le_refl _) _).alloc (by simp) _
  have HB0 := Lib.hid hb0
  have HA := Lib.hid (fun w h => iReadKey_any x w hs h)
  have HF := Lib.hid (fun w r v l h h' => iIsKey_any w r (.slice sa sn sc) v s l h h')
  have HSI := Lib.hid hsi
  have HE := Lib.hid he
  obtain ⟨e1, e2⟩ := kp_eq_rk s x.data.toList
  have HNO : Hid (kpOk s x.data.toList = false → ∀ w0 w', Below w0.heap.size w0 w' → GaveKPi s x.data.toList w0 (.returned (.tuple #[.agg #[.int .i64 0, .slice none 0 0], .bool false])) w') := by
    intro hx w0 w' hb
    refine ⟨_, [], by rw [hx], ?_, freshNil _ _, hb⟩
    rw [kp_no hx]; exact zeroAtomO _
  unfold GaveRK at HA
  clear he hsi hb0 hs
  cases hok : rkOk x.data.toList with
  | false =>
    have HN := Lib.hid (HNO.out (by rw [e1, hok]; rfl))
    rw [hok] at HA
    clear e1 e2 hok HNO
    generalize rkRes x.data.toList = V at *
    generalize x.data.toList = S at *
    go_enter Tryd.func28, Tryd.ntmps28
    go_wp2_with fail
    refine (HA.out _ (HE.out.below (HB0.out _ _))).mono ?_
    rintro e w1 ⟨v, bs', rfl, hro, hfre, hb⟩
    obtain ⟨a, n, c, rfl, _, _⟩ := hro
    have HB1 := Lib.hid (bnext (HB0.out _ _) hb)
    have kr0 := cellk hb (b := w.heap.size + 1) (o := 0) (v := .int .i64 0) (by simp)
    have kr1 := cellk hb (b := w.heap.size + 1) (o := 1) (v := .slice none 0 0) (by simp)
    have kf0 : w1.frozen? ⟨w.heap.size + 1, 0, none⟩ = false := frok hb (v := .int .i64 0) (by simp) (by simp)
    have kf1 : w1.frozen? ⟨w.heap.size + 1, 1, none⟩ = false := frok hb (v := .slice none 0 0) (by simp) (by simp)
    have hlt := World.block_lt_of_cell? w1 _ kr0
    generalize V.1 = R at *
    clear hb hfre
    go_wp2_with fail
    exact bodyPost_ret (v := .tuple #[.agg #[.int .i64 0, .slice none 0 0], .bool false]) (by simp [results, Tryd.results28, go_sem, kr0, kr1, hlt]) rfl (HN.out _ _ (((HB1.out.setCell (by simp) _).setCell (by simp) _).alloc (by have := HB1.out.size; simpa [World.setCell] using this) _))
  | true =>
    have hv : rkRes x.data.toList = rkVal x.data.toList := by unfold rkRes; rw [if_pos hok]
    rw [hok, hv] at HA
    rw [hok, Bool.true_and] at e1
    have HYES : Hid (isKeyB s (rkVal x.data.toList).1 (rkVal x.data.toList).2 = true → ∀ w0 w' a n c bs, OInts w' (.slice a n c) (rkVal x.data.toList).2 bs → inI (rkVal x.data.toList).1 → Fresh w0 w' bs → Below w0.heap.size w0 w' → GaveKPi s x.data.toList w0 (.returned (.tuple #[.agg #[.int .i64 (rkVal x.data.toList).1, .slice a n c], .bool true])) w') := by
      intro hx w0 w' a n c bs ho hi hf hb
      rw [← e1] at hx
      refine ⟨_, bs, by rw [hx], ?_, hf, hb⟩
      rw [kp_yes hx, e2 hx]
      exact ⟨a, n, c, rfl, hi, ho⟩
    rw [e1] at HNO
    have HFq := Lib.hid (fun w v h h' => HF.out w (rkVal x.data.toList).1 v (rkVal x.data.toList).2 h h')
    clear e1 e2 hok hv HF
    unfold ROAtom at HA
    generalize isKeyB s (rkVal x.data.toList).1 (rkVal x.data.toList).2 = q at *
    generalize (rkVal x.data.toList).1 = R at *
    generalize (rkVal x.data.toList).2 = L at *
    generalize x.data.toList = S at *
    cases q
    all_goals
      go_enter Tryd.func28, Tryd.ntmps28
      go_wp2_with fail
      refine (HA.out _ (HE.out.below (HB0.out _ _))).mono ?_
      rintro e w1 ⟨v, bs', rfl, ⟨a, n, c, rfl, hri, ho⟩, hfre, hb⟩
      have HRI := Lib.hid hri
      have HB1 := Lib.hid (bnext (HB0.out _ _) hb)
      have ks := cellk hb (b := w.heap.size) (o := 0) (v := .slice sa sn sc) (by simp)
      have kr0 := cellk hb (b := w.heap.size + 1) (o := 0) (v := .int .i64 0) (by simp)
      have kr1 := cellk hb (b := w.heap.size + 1) (o := 1) (v := .slice none 0 0) (by simp)
      have kf0 : w1.frozen? ⟨w.heap.size + 1, 0, none⟩ = false := frok hb (v := .int .i64 0) (by simp) (by simp)
      have kf1 : w1.frozen? ⟨w.heap.size + 1, 1, none⟩ = false := frok hb (v := .slice none 0 0) (by simp) (by simp)
      have hlt := World.block_lt_of_cell? w1 _ kr0
      have HLO : Hid (∀ b ∈ bs', w.heap.size + 2 ≤ b) := fun b hb => by have := hfre.lo b hb; simpa using this
      have HFR := Lib.hid hfre
      have HO := Lib.hid ho
      have HAL := Lib.hid (below_alloc w1 (.cells #[.int .i64 R, .slice a n c] 33))
      have HF1 := Lib.hid (fun o => HFq.out _ (.slice a n c) (HSI.out.below (bnext HB1.out (below_alloc w1 o))) (ho.1.below (below_alloc w1 o)))
      have ks' := cellk HAL.out ks
      clear hb hfre ho
      go_wp2_with fail
      refine (HF1.out _).mono ?_
      rintro e w3 ⟨rfl, hb⟩
      have HB3 := Lib.hid (bnext HB1.out (bnext HAL.out hb))
      have HO3 := Lib.hid (HO.out.below (bnext HAL.out hb))
      have HSZ := Lib.hid (bnext HAL.out hb).size
      have kx0 := cellk hb (b := w1.heap.size) (o := 0) (v := .int .i64 R) (by simp)
      have kx1 := cellk hb (b := w1.heap.size) (o := 1) (v := .slice a n c) (by simp)
      replace kf0 := frok (bnext HAL.out hb) kr0 kf0
      replace kf1 := frok (bnext HAL.out hb) kr1 kf1
      replace kr0 := cellk (bnext HAL.out hb) kr0
      replace kr1 := cellk (bnext HAL.out hb) kr1
      clear hb
      go_wp2_with fail
    · exact bodyPost_ret (v := .tuple #[.agg #[.int .i64 0, .slice none 0 0], .bool false]) (by simp [results, Tryd.results28, go_sem, kr0, kr1]) rfl (HNO.out (by trivial) _ _ ((HB3.out.setCell (by simp) _).setCell (by simp) _))
    · refine bodyPost_ret (v := .tuple #[.agg #[.int .i64 R, .slice a n c], .bool true]) (by simp [results, Tryd.results28, go_sem, kr0, kr1]) rfl ?_
      refine HYES.out (by trivial) _ _ _ _ _ bs' ((HO3.out.setCell HLO.out _ _ _ (by omega)).setCell HLO.out _ _ _ (by omega)) HRI.out ⟨HFR.out.1, fun b hb => ⟨?_, ?_⟩⟩ ((HB3.out.setCell (by simp) _).setCell (by simp) _)
      · have := HLO.out b hb; omega
      · have := (HFR.out.2 b hb).2; have := HSZ.out; simp [World.setCell]; omega
end Go.Proofs.YtnbljidjbknleaaDoor
