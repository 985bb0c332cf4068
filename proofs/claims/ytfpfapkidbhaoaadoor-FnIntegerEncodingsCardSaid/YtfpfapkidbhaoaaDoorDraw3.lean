/- Contracts of the model's drawing functions, third part: texts, and the draws of chapter 1. -/
import Derived.Test.YtfpfapkidbhaoaaDoorDraw2
namespace Go.Proofs.YtfpfapkidbhaoaaDoor
open Go.RowKit
set_option linter.unusedVariables false

theorem info_u8' : (Tryd.prog.info? 5).map (fun i => (i.zero, i.size, i.bytes)) = some (some (.int .u8 0), 1, 1) := by kernel_rfl
/-- A slice of the numbers l in a block from base on. -/
def Own (k : IntKind) (E : TypeId) (base : Nat) (w : World) (v : Value) (l : List Int) : Prop := w.ownsRow base E 1 v l.length (l.map (Value.int k)) ∧ base ≤ w.heap.size
section
variable {P : Program}
theorem wpList_app1_own {wr : World} {ops : Array Oper} {rest : List Oper} {o : Oper} {a : Act} {Q : Exit → Act → World → Prop} (hgd : o.guard = none) (s x : Operand) (t : TypeId)
    (ho : o.op = .call { callee := .builtin .append, args := #[s, x], argTypes := #[t, t] })
    (k : IntKind) (E : TypeId) (z : Int) (bytes : Nat) (ht : P.underlying t = some (.slice E)) (hinfo : (P.info? E).map (fun i => (i.zero, i.size, i.bytes)) = some (some (.int k z), 1, bytes)) (h8 : bytes ≤ 8)
    (base : Nat) (v : Value) (l : List Int) (hs : a.eval s = v) (hown : Own k E base wr v l) (y : Int)
    (hx : a.eval x = .slice (some ⟨wr.heap.size, 0, none⟩) 1 1) (hl : l.length + 1 ≤ 17592186044416)
    (h : ∀ v' w', Own k E base w' v' (l ++ [y]) → Below base wr w' → wpList P ops Q rest (a.put o.dst v') w') : wpList P ops Q (o :: rest) a (wr.alloc (.cells #[.int k y] E)) := by
  obtain ⟨i, hi, hz0, hz1, hz2⟩ := info_parts hinfo
  have hlen : (l.length + 1) * bytes ≤ 140737488355328 := by
    have : (l.length + 1) * bytes ≤ 17592186044416 * 8 := Nat.mul_le_mul hl h8
    omega
  refine wpList_append_own (wr.alloc (.cells #[.int k y] E)) hgd s x t ho base E i (.int k z) 1 bytes ht hi hz0 hz1 hz2 rfl (by decide) v l.length (l.map (Value.int k)) hs (hown.1.alloc _) ⟨wr.heap.size, 0, none⟩ 1 1 ([y].map (Value.int k)) hx rfl ?_ (ints_oneCell k [y]) (by unfold maxLen; omega) hlen (by have := hown.2; simp; omega) ?_
  · intro j u hu
    rw [Addr.add_lit, Nat.zero_add, World.cell?_alloc_at _ _ _ _ rfl]
    simpa using hu
  · intro v' w' ho' hg _
    have hb : Below base wr w' := ((Below.refl base wr).alloc hown.2 _).grown hg (by have := hown.2; simp; omega) fun j hj => (hown.1.lt j hj).1
    exact h v' w' ⟨by simpa using ho', Nat.le_trans hown.2 hb.size⟩ hb

theorem run_string_own {w : World} {base : Nat} {v : Value} {l : List Int} {src dst E : TypeId} (hsrc : P.underlying src = some (.slice E)) (he : P.underlying E = some (.int .u8)) (hd : P.underlying dst = some .string)
    (hown : Own .u8 E base w v l) : (convert src dst v).run P w = .ok (.string (strOfNums l)) w := by
  rcases hown.1.2 with ⟨rfl, hn⟩ | ⟨g, cap, cur, rfl, hb, hg, hlc, hcm, hsz, htk⟩
  · have hl : l = [] := List.length_eq_zero_iff.1 hn
    subst hl
    rw [run_convert_bytes_nil w src E hsrc he 0 0 dst hd]
    rfl
  · refine run_convert_bytes_arg w src E hsrc he g 0 l.length cap l rfl (fun i hi => ?_) dst hd
    have := World.ownsRow.cellAt hown.1 i (by simpa using hi)
    rw [Nat.zero_add, this]
    simp [List.getD, List.getElem?_eq_getElem hi]
end
theorem grownBy_below' {w wr w' : World} {cb : Nat} (h : w.grownBy wr (some cb)) (hb : Below w.heap.size wr w') : w.grownBy w' (some cb) :=
  ⟨hb.os.trans h.os, hb.tape.trans h.tape, hb.output.trans h.output, Nat.le_trans h.size hb.size, fun k hk hr => (hb.block k hk).trans (h.block k hk hr)⟩
theorem Cur.below {w w' : World} {S : Value} {len cb B : Nat} (h : Cur w S len cb) (hb : Below B w w') (hlt : cb < B) : Cur w' S len cb := by
  obtain ⟨i, hh, hi, hc⟩ := h
  exact ⟨i, hh, hi, by rw [hb.block cb hlt]; exact hc⟩
theorem Own.next {k : IntKind} {E : TypeId} {base cb : Nat} {w w' : World} {v : Value} {l : List Int} (h : Own k E base w v l) (hg : w.grownBy w' (some cb)) (hlt : cb < base) : Own k E base w' v l := by
  refine ⟨h.1.kept hg ?_, Nat.le_trans h.2 hg.size⟩
  right
  intro e
  have := (h.1.lt cb e).1
  omega

/-- A drawn text. -/
def DrawnT (w : World) (S : Value) (len cb : Nat) (most : Int) (e : Ending) (w' : World) : Prop :=
  ∃ s : ByteArray, (s.size : Int) ≤ most ∧ e = .returned (.string s) ∧ Cur w' S len cb ∧ w.grownBy w' (some cb)

set_option maxRecDepth 100000 in
set_option maxHeartbeats 4000000 in
theorem l1Text_any (most : Int) (w : World) (S : Value) (len cb : Nat) (h : St w S len cb) (h0 : 0 ≤ most) (h1 : most ≤ 1000000) :
    Calls Tryd.prog 23 #[.pointer (some ⟨cb, 0, none⟩), .int .i64 most] w (DrawnT w S len cb most) := by
  have hb := Lib.hid (fun n w h h0 h1 => l1Below_any n w S len cb h h0 h1)
  have hby := Lib.hid (fun w h => l1Byte_any w S len cb h)
  have HC := Lib.hid h.1
  have HS := Lib.hid h
  have hlt := h.cb_lt
  clear h
  go_enter Tryd.func23, Tryd.ntmps23
  go_wp2_with fail
  refine (hb.out _ _ (HS.out.alloc _) (by omega) (by omega)).mono ?_
  rintro e w1 ⟨x, hx0, hx1, rfl, hcur, hg⟩
  have HG1 := Lib.hid (grownBy_trans (World.grownBy_alloc w _ _) hg)
  have HO1 : Hid (Own .u8 5 w.heap.size w1 (.slice (some ⟨w.heap.size, 0, none⟩) 0 0) []) :=
    Own.next (cb := cb) ⟨World.ownsRow_lit (base := w.heap.size) w #[] 0 (Nat.le_refl _) (by decide) rfl, by simp⟩ hg hlt
  have HC1 := Lib.hid ((HS.out.alloc _).next hcur hg)
  clear hcur hg
  go_wp2_with fail
  refine (hb.out _ _ HC1.out (by omega) (by omega)).mono ?_
  rintro e w2 ⟨n, hn0, hn1, rfl, hcur, hg⟩
  have HG2 := Lib.hid (grownBy_trans HG1.out hg)
  have HO2 := Lib.hid (HO1.out.next hg hlt)
  have HU2 := Lib.hid hcur
  clear hcur hg
  go_wp2_with fail
  go_loopw [5, 7, 8] (fun ov nv _ wr => ∃ (k : Nat) (l : List Int), nv = .int .i64 k ∧ (l.length + k : Int) ≤ most ∧ Own .u8 5 w.heap.size wr ov l ∧ w.grownBy wr (some cb) ∧ Cur wr S len cb) (fun _ nv _ _ => (intOf nv).toNat)
  case atStart =>
    obtain ⟨n, rfl⟩ := Int.eq_ofNat_of_zero_le hn0
    exact ⟨n, [], rfl, by simp; omega, HO2.out, HG2.out, HU2.out⟩
  case round =>
    obtain ⟨k, l, rfl, hk, hown, hgr, hcu⟩ := hrel
    have HST := Lib.hid (And.intro (HC.out.grown hgr) hcu)
    have HOW := Lib.hid hown
    have HGR := Lib.hid hgr
    clear hown hgr hcu
    by_cases hk0 : 0 < k
    · go_wp2_with fail
      refine (hby.out _ HST.out).mono ?_
      rintro e w3 ⟨y, hy0, hy1, rfl, hcur, hg⟩
      have HG3 := Lib.hid (grownBy_trans HGR.out hg)
      have hown3 := HOW.out.next hg hlt
      have HU3 := Lib.hid hcur
      clear hcur hg
      by_cases hs1 : x = 1
      · subst hs1
        go_wp2_with (at_builtin; refine wpList_app1_own rfl (.tmp 31) (.tmp 34) 22 rfl .u8 5 0 1 Tryd.underlying22 info_u8' (by decide) w.heap.size _ l rfl hown3 _ rfl (by omega) ?_)
        intro v' w4 hown4 hb4
        have HB4 := Lib.hid hb4
        clear hb4 hown3
        go_wp2_with fail
        exact ⟨⟨k - 1, l ++ [_], by rw [show ((k : Int) - 1) = ((k - 1 : Nat) : Int) from by omega], by simp; omega, hown4, grownBy_below' HG3.out HB4.out, HU3.out.below HB4.out hlt⟩, by simp [intOf]; omega⟩
      · have q1 : (x == 1) = false := by simp; exact hs1
        by_cases hs2 : x = 2
        · subst hs2
          go_wp2_with (at_builtin; refine wpList_app1_own rfl (.tmp 31) (.tmp 34) 22 rfl .u8 5 0 1 Tryd.underlying22 info_u8' (by decide) w.heap.size _ l rfl hown3 _ rfl (by omega) ?_)
          intro v' w4 hown4 hb4
          have HB4 := Lib.hid hb4
          clear hb4 hown3
          go_wp2_with fail
          exact ⟨⟨k - 1, l ++ [_], by rw [show ((k : Int) - 1) = ((k - 1 : Nat) : Int) from by omega], by simp; omega, hown4, grownBy_below' HG3.out HB4.out, HU3.out.below HB4.out hlt⟩, by simp [intOf]; omega⟩
        · have q2 : (x == 2) = false := by simp; exact hs2
          clear hs1 hs2
          go_wp2_with (at_builtin; refine wpList_app1_own rfl (.tmp 31) (.tmp 34) 22 rfl .u8 5 0 1 Tryd.underlying22 info_u8' (by decide) w.heap.size _ l rfl hown3 _ rfl (by omega) ?_)
          intro v' w4 hown4 hb4
          have HB4 := Lib.hid hb4
          clear hb4 hown3
          go_wp2_with fail
          exact ⟨⟨k - 1, l ++ [_], by rw [show ((k : Int) - 1) = ((k - 1 : Nat) : Int) from by omega], by simp; omega, hown4, grownBy_below' HG3.out HB4.out, HU3.out.below HB4.out hlt⟩, by simp [intOf]; omega⟩
    · obtain rfl : k = 0 := by omega
      have hcv := run_string_own Tryd.underlying22 Tryd.underlying5 Tryd.underlying9 HOW.out
      have HSZ : Hid (((strOfNums l).size : Int) ≤ most) := by unfold Hid; rw [strOfNums_size]; omega
      go_wp2_with fail
      go_ret
      exact ⟨_, HSZ.out, rfl, HST.out.2, HGR.out⟩

theorem below_grownBy {w w1 w2 : World} {cb : Nat} (hb : Below w.heap.size w w1) (hg : w1.grownBy w2 (some cb)) (hcb : w.heap.size ≤ cb) : Below w.heap.size w w2 :=
  hb.grown hg hb.size (fun k h => by cases h; exact hcb)
def OutI (w : World) (e : Ending) (w' : World) : Prop := ∃ x : Int, -9223372036854775808 ≤ x ∧ x ≤ 9223372036854775807 ∧ e = .returned (.int .i64 x) ∧ Below w.heap.size w w'
def OutT (w : World) (most : Int) (e : Ending) (w' : World) : Prop := ∃ s : ByteArray, (s.size : Int) ≤ most ∧ e = .returned (.string s) ∧ Below w.heap.size w w'
def OutII (w : World) (e : Ending) (w' : World) : Prop := ∃ x y : Int, -9223372036854775808 ≤ x ∧ x ≤ 9223372036854775807 ∧ -1 ≤ y ∧ y ≤ 8 ∧ e = .returned (.tuple #[.int .i64 x, .int .i64 y]) ∧ Below w.heap.size w w'

set_option maxHeartbeats 1000000 in
theorem drawEncodeVarint_any (w : World) (S : Value) (len : Nat) (h : Arg w S len) :
    Calls Tryd.prog 7 #[S] w (OutI w) := by
  have hn := Lib.hid (l1New_any w S len h)
  have hnum := Lib.hid (fun w cb h => l1Num_any w S len cb h)
  clear h
  go_enter Tryd.func7, Tryd.ntmps7
  go_wp2_with fail
  refine hn.out.mono ?_
  rintro e w1 ⟨cb, hcb, rfl, hst, hb⟩
  have HST := Lib.hid hst
  have HB := Lib.hid hb
  clear hst hb
  go_wp2_with fail
  refine (hnum.out _ _ HST.out).mono ?_
  rintro e w2 ⟨x, hx0, hx1, rfl, hcur, hg⟩
  have HX := Lib.hid (And.intro hx0 hx1)
  have HB2 := Lib.hid (below_grownBy HB.out hg hcb)
  clear hcur hg hx0 hx1
  go_wp2_with fail
  go_ret
  exact ⟨x, HX.out.1, HX.out.2, rfl, HB2.out⟩
set_option maxHeartbeats 1000000 in
theorem drawEncodeHex_any (w : World) (S : Value) (len : Nat) (h : Arg w S len) :
    Calls Tryd.prog 8 #[S] w (OutT w 40) := by
  have hn := Lib.hid (l1New_any w S len h)
  have hnum := Lib.hid (fun w cb h => l1Text_any 40 w S len cb h (by omega) (by omega))
  clear h
  go_enter Tryd.func8, Tryd.ntmps8
  go_wp2_with fail
  refine hn.out.mono ?_
  rintro e w1 ⟨cb, hcb, rfl, hst, hb⟩
  have HST := Lib.hid hst
  have HB := Lib.hid hb
  clear hst hb
  go_wp2_with fail
  refine (hnum.out _ _ HST.out).mono ?_
  rintro e w2 ⟨x, hx0, rfl, hcur, hg⟩
  have HX := Lib.hid hx0
  have HB2 := Lib.hid (below_grownBy HB.out hg hcb)
  clear hcur hg hx0
  go_wp2_with fail
  go_ret
  exact ⟨x, HX.out, rfl, HB2.out⟩
set_option maxHeartbeats 1000000 in
theorem drawEncodeFixed_any (w : World) (S : Value) (len : Nat) (h : Arg w S len) :
    Calls Tryd.prog 11 #[S] w (OutII w) := by
  have hn := Lib.hid (l1New_any w S len h)
  have hnum := Lib.hid (fun w cb h => l1Num_any w S len cb h)
  have hbel := Lib.hid (fun w cb h => l1Below_any 10 w S len cb h (by omega) (by omega))
  have HC := Lib.hid h
  clear h
  go_enter Tryd.func11, Tryd.ntmps11
  go_wp2_with fail
  refine hn.out.mono ?_
  rintro e w1 ⟨cb, hcb, rfl, hst, hb⟩
  have HST := Lib.hid hst
  have HB := Lib.hid hb
  clear hst hb
  go_wp2_with fail
  refine (hnum.out _ _ HST.out).mono ?_
  rintro e w2 ⟨x, hx0, hx1, rfl, hcur, hg⟩
  have HX := Lib.hid (And.intro hx0 hx1)
  have HB2 := Lib.hid (below_grownBy HB.out hg hcb)
  have HS2 := Lib.hid (HST.out.next hcur hg)
  clear hcur hg hx0 hx1
  go_wp2_with fail
  refine (hbel.out _ _ HS2.out).mono ?_
  rintro e w3 ⟨y, hy0, hy1, rfl, hcur, hg⟩
  have HB3 := Lib.hid (below_grownBy HB2.out hg hcb)
  clear hcur hg
  go_wp2_with fail
  go_ret2
  exact ⟨x, y - 1, HX.out.1, HX.out.2, by omega, by omega, rfl, HB3.out⟩
end Go.Proofs.YtfpfapkidbhaoaaDoor
