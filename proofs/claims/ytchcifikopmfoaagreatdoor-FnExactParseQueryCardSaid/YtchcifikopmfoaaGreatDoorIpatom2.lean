/- Contract of chapter 3's program: ParseAtom. -/
import Derived.Test.YtchcifikopmfoaaGreatDoorIpatom
namespace Go.Proofs.YtchcifikopmfoaaGreatDoor
open Go Go.Sort Go.RowKit
set_option linter.unusedVariables false

def GavePA (s : List UInt8) (w : World) (e : Ending) (w' : World) : Prop := ∃ v bs, e = .returned (.tuple #[v, .bool (paOk s)]) ∧ ROAtom w' v (paRes s) bs ∧ Fresh w w' bs ∧ Below w.heap.size w w'
set_option maxHeartbeats 4000000 in
theorem iParseAtom_any (s : ByteArray) (w : World) (hs : s.size ≤ 1048576) (he : EnvS w) :
    Calls Tryz.prog 38 #[.string s] w (GavePA s.data.toList w) := by
  have HA := Lib.hid (fun w h => iReadAtom_any s w hs h)
  obtain ⟨e1, e2⟩ := pa_eq_ra s.data.toList
  have HNO : Hid (paOk s.data.toList = false → ∀ w0 w', Below w0.heap.size w0 w' → GavePA s.data.toList w0 (.returned (.tuple #[.agg #[.int .i64 0, .slice none 0 0], .bool false])) w') := by
    intro hx w0 w' hb
    refine ⟨_, [], by rw [hx], ?_, freshNil _ _, hb⟩
    rw [pa_no hx]; exact zeroAtomO _
  have hb0 : Below w.heap.size w (w.alloc (.cells #[.int .i64 0, .slice none 0 0] 43)) := (Below.refl _ _).alloc (Nat.le_refl _) _
  have HB0 := Lib.hid hb0
  have HE0 := Lib.hid (he.below hb0)
  have hval := @rDig_bd s.data.toList
  have hri : inI (raVal s.data.toList).1 := by
    unfold raVal; split
    · exact hval
    · exact ⟨by decide, by decide⟩
  cases hok : raOk s.data.toList with
  | false =>
    have HN := Lib.hid (HNO.out (by rw [e1, hok]; rfl))
    unfold GaveRead at HA
    rw [hok] at HA
    clear e1 e2 hok hb0 he HNO hval hri
    go_enter Tryz.func38, Tryz.ntmps38
    go_wp2_with fail
    refine (HA.out _ HE0.out).mono ?_
    rintro e w1 ⟨v, bs', rfl, hro, hfre, hb⟩
    obtain ⟨a, n, c, rfl, _, _⟩ := hro
    have HB1 := Lib.hid (bnext HB0.out hb)
    have kr0 := cellk hb (b := w.heap.size) (o := 0) (v := .int .i64 0) (by simp)
    have kr1 := cellk hb (b := w.heap.size) (o := 1) (v := .slice none 0 0) (by simp)
    have kf0 : w1.frozen? ⟨w.heap.size, 0, none⟩ = false := frok hb (v := .int .i64 0) (by simp) (by simp)
    have kf1 : w1.frozen? ⟨w.heap.size, 1, none⟩ = false := frok hb (v := .slice none 0 0) (by simp) (by simp)
    have hlt := World.block_lt_of_cell? w1 _ kr0
    generalize (raVal s.data.toList).1 = R at *
    clear hb hfre
    go_wp2_with fail
    exact bodyPost_ret (v := .tuple #[.agg #[.int .i64 0, .slice none 0 0], .bool false]) (by simp [results, Tryz.results38, go_sem, kr0, kr1, hlt]) rfl (HN.out _ _ (((HB1.out.setCell (by simp) _).setCell (by simp) _).alloc (by simp [World.setCell]; omega) _))
  | true =>
    have hq : ∃ q : Bool, (fatom (raVal s.data.toList).1 (raVal s.data.toList).2 == s.toList) = q ∧ paOk s.data.toList = q := by
      refine ⟨_, cmp_l _ _, ?_⟩
      rw [e1, hok]; rfl
    obtain ⟨q, hq1, hq2⟩ := hq
    unfold GaveRead at HA
    rw [hok] at HA
    have HYES : Hid (q = true → ∀ w0 w' a n c bs, OInts w' (.slice a n c) (raVal s.data.toList).2 bs → Fresh w0 w' bs → Below w0.heap.size w0 w' → GavePA s.data.toList w0 (.returned (.tuple #[.agg #[.int .i64 (raVal s.data.toList).1, .slice a n c], .bool true])) w') := by
      intro hx w0 w' a n c bs ho hf hb
      rw [← hq2] at hx
      refine ⟨_, bs, by rw [hx], ?_, hf, hb⟩
      rw [e2 hx]
      exact ⟨a, n, c, rfl, hri, ho⟩
    have HF := Lib.hid (fun w v h e => iFormatAtom_any w (raVal s.data.toList).1 v (raVal s.data.toList).2 hri h e)
    rw [hq2] at HNO
    have HRI := Lib.hid hri
    clear e1 e2 hok hb0 he hval hri hq2
    unfold ROAtom at HA
    generalize (raVal s.data.toList).1 = R at *
    generalize (raVal s.data.toList).2 = L at *
    generalize fatom R L = FA at *
    cases q
    all_goals
      go_enter Tryz.func38, Tryz.ntmps38
      go_wp2_with fail
      refine (HA.out _ HE0.out).mono ?_
      rintro e w1 ⟨v, bs', rfl, ⟨a, n, c, rfl, _, ho⟩, hfre, hb⟩
      have HB1 := Lib.hid (bnext HB0.out hb)
      have HE1 := Lib.hid (HE0.out.below hb)
      have kr0 := cellk hb (b := w.heap.size) (o := 0) (v := .int .i64 0) (by simp)
      have kr1 := cellk hb (b := w.heap.size) (o := 1) (v := .slice none 0 0) (by simp)
      have kf0 : w1.frozen? ⟨w.heap.size, 0, none⟩ = false := frok hb (v := .int .i64 0) (by simp) (by simp)
      have kf1 : w1.frozen? ⟨w.heap.size, 1, none⟩ = false := frok hb (v := .slice none 0 0) (by simp) (by simp)
      have hlt := World.block_lt_of_cell? w1 _ kr0
      have HLO : Hid (∀ b ∈ bs', w.heap.size + 1 ≤ b) := fun b hb => by have := hfre.lo b hb; simpa using this
      have HFR := Lib.hid hfre
      have HO := Lib.hid ho
      have HAL := Lib.hid (below_alloc w1 (.cells #[.int .i64 R, .slice a n c] 43))
      have HF1 := Lib.hid (fun o => HF.out _ (.slice a n c) (ho.1.below (below_alloc w1 o)) (HE1.out.1.below (below_alloc w1 o)))
      clear hb hfre ho
      go_wp2_with fail
      refine (HF1.out _).mono ?_
      rintro e w3 ⟨rfl, hb⟩
      have HB3 := Lib.hid (bnext HB1.out (bnext HAL.out hb))
      have HO3 := Lib.hid (HO.out.below (bnext HAL.out hb))
      have HSZ := Lib.hid (bnext HAL.out hb).size
      have kx0 := cellk hb (b := w1.heap.size) (o := 0) (v := .int .i64 R) (by simp)
      have kx1 := cellk hb (b := w1.heap.size) (o := 1) (v := .slice a n c) (by simp)
      replace kf0 := frok (bnext HAL.out hb) kr0 kf0
      replace kf1 := frok (bnext HAL.out hb) kr1 kf1
      replace kr0 := cellk (bnext HAL.out hb) kr0
      replace kr1 := cellk (bnext HAL.out hb) kr1
      clear hb
      go_wp2_with fail
    · exact bodyPost_ret (v := .tuple #[.agg #[.int .i64 0, .slice none 0 0], .bool false]) (by simp [results, Tryz.results38, go_sem, kr0, kr1]) rfl (HNO.out (by trivial) _ _ ((HB3.out.setCell (by simp) _).setCell (by simp) _))
    · refine bodyPost_ret (v := .tuple #[.agg #[.int .i64 R, .slice a n c], .bool true]) (by simp [results, Tryz.results38, go_sem, kr0, kr1]) rfl ?_
      refine HYES.out (by trivial) _ _ _ _ _ bs' ((HO3.out.setCell HLO.out _ _ _ (by omega)).setCell HLO.out _ _ _ (by omega)) ⟨HFR.out.1, fun b hb => ⟨?_, ?_⟩⟩ ((HB3.out.setCell (by simp) _).setCell (by simp) _)
      · have := HLO.out b hb; omega
      · have := (HFR.out.2 b hb).2; have := HSZ.out; simp [World.setCell]; omega
end Go.Proofs.YtchcifikopmfoaaGreatDoor
