/- Contract: impl.ParseInt. -/
import Derived.Test.YtnbljidjbknleaaDoorPspec
import Derived.Lib.OthersKept
import Derived.WalkSmall
namespace Go.Proofs.YtnbljidjbknleaaDoor
open Go.RowKit
set_option linter.unusedVariables false

theorem isDec_yes (x : Int) (w : World) (h0 : 48 ≤ x) (h1 : x ≤ 57) :
    Calls Tryd.prog 108 #[.int .i32 x] w fun e w' => e = .returned (.bool true) ∧ w' = w := by
  go_enter Tryd.func108, Tryd.ntmps108
  go_wp2
  go_ret
  exact ⟨rfl, rfl⟩
theorem isDec_no (x : Int) (w : World) (h0 : x < 48 ∨ 57 < x) :
    Calls Tryd.prog 108 #[.int .i32 x] w fun e w' => e = .returned (.bool false) ∧ w' = w := by
  rcases h0 with h | h
  · go_enter Tryd.func108, Tryd.ntmps108
    go_wp2
    go_ret
    exact ⟨rfl, rfl⟩
  · by_cases h2 : x < 48
    · omega
    · have h3 : decide (x ≤ 57) = false := decide_eq_false (by omega)
      go_enter Tryd.func108, Tryd.ntmps108
      go_wp2
      go_ret
      exact ⟨rfl, rfl⟩
def iRes (l : List UInt8) : Int := if iOk l then sval l (pv (dpart l)) else 0
theorem iRes_eq (l : List UInt8) : iRes l = sRes l := by
  obtain ⟨h1, h2⟩ := ok_eq l
  unfold iRes sRes
  rw [h1]
  by_cases h : iOk l = true
  · rw [if_pos h, if_pos h, h2 h]
  · rw [if_neg h, if_neg h]
theorem all_take_snoc (s : ByteArray) (k : Nat) (h : k < s.size) (h1 : (s.data.toList.take k).all isDig = true) (h2 : isDig s[k] = true) : (s.data.toList.take (k + 1)).all isDig = true := by
  rw [ptake_snoc s k h, List.all_append, h1, List.all_cons, h2]; rfl
theorem not_all (s : ByteArray) (k : Nat) (h : k < s.size) (h2 : isDig s[k] = false) : ¬ s.data.toList.all isDig = true := by
  intro hc
  have hl : k < s.data.toList.length := by simpa using h
  have := List.all_eq_true.1 hc _ (List.getElem_mem hl)
  have e : s.data.toList[k] = s[k] := rfl
  rw [e, h2] at this
  cases this

theorem i_no (l dl : List UInt8) (hd : dl = dpart l) (h : ¬ (1 ≤ dl.length ∧ dl.length ≤ 9 ∧ dl.all isDig = true ∧ Lib.itoa (sval l (pv dl)) = l)) : iRes l = 0 ∧ iOk l = false := by
  subst hd
  have h2 : iOk l = false := by
    rw [Bool.eq_false_iff]
    intro hc
    simp only [iOk, Bool.and_eq_true, decide_eq_true_eq] at hc
    exact h ⟨hc.1.1.1, hc.1.1.2, hc.1.2, hc.2⟩
  exact ⟨by unfold iRes; rw [h2]; rfl, h2⟩
theorem i_yes (l dl : List UInt8) (hd : dl = dpart l) (h1 : 1 ≤ dl.length) (h2 : dl.length ≤ 9) (h3 : dl.all isDig = true) (h4 : Lib.itoa (sval l (pv dl)) = l) : iRes l = sval l (pv dl) ∧ iOk l = true := by
  subst hd
  have h5 : iOk l = true := by
    simp only [iOk, Bool.and_eq_true, decide_eq_true_eq]
    exact ⟨⟨⟨h1, h2⟩, h3⟩, h4⟩
  exact ⟨by unfold iRes; rw [h5]; rfl, h5⟩

set_option maxRecDepth 100000 in
set_option maxHeartbeats 4000000 in
theorem iParseInt_neg (s : ByteArray) (w : World) (hs : s.size ≤ 1048576) (ht : Tab w) (hneg : sgn s.data.toList = true) :
    Calls Tryd.prog 98 #[.string s] w fun e w' => e = .returned (.tuple #[.int .i64 (iRes s.data.toList), .bool (iOk s.data.toList)]) ∧ Below w.heap.size w w' := by
  have HTAB := Lib.hid ht
  clear ht
  obtain ⟨hz, h45⟩ := sgn_first hneg
  have hb : (((s[0]'hz).toNat : Int) == 45) = true := by rw [h45]; rfl
  have he : s.toList.isEmpty = false := by
    rw [Lib.toList_data, List.isEmpty_eq_false_iff]
    intro h
    have hl : s.data.toList.length = s.size := by simp
    rw [h, List.length_nil] at hl
    omega
  obtain ⟨ds, hds⟩ : ∃ ds, s.extract 1 s.size = ds := ⟨_, rfl⟩
  have hdl : ds.data.toList = dpart s.data.toList := by
    rw [← hds, Lib.extract_data]
    unfold dpart
    rw [if_pos hneg, List.take_of_length_le (by simp)]
  have hlen : ds.data.toList.length = ds.size := by simp
  clear h45
  have HF : Hid (¬ (1 ≤ ds.data.toList.length ∧ ds.data.toList.length ≤ 9 ∧ ds.data.toList.all isDig = true ∧ Lib.itoa (sval s.data.toList (pv ds.data.toList)) = s.data.toList) → iRes s.data.toList = 0 ∧ iOk s.data.toList = false) := i_no _ _ hdl
  have HT : Hid (1 ≤ ds.size → ds.size ≤ 9 → ds.data.toList.all isDig = true → Lib.itoa (sval s.data.toList (pv ds.data.toList)) = s.data.toList → iRes s.data.toList = sval s.data.toList (pv ds.data.toList) ∧ iOk s.data.toList = true) := fun a b => i_yes _ _ hdl (by omega) (by omega)
  clear hdl
  by_cases h1 : 1 ≤ ds.size
  · by_cases h9 : ds.size ≤ 9
    · have g1 : decide ((ds.size : Int) < 1) = false := decide_eq_false (by omega)
      have g2 : decide (9 < (ds.size : Int)) = false := decide_eq_false (by omega)
      clear hlen
      go_enter Tryd.func98, Tryd.ntmps98
      go_wp2
      clear hds
      go_loopw [6, 8] (fun nv _ wr => ∃ pos : Nat, pos ≤ ds.size ∧ nv = .int .i64 (pv (ds.data.toList.take pos)) ∧ wr.heap[w.heap.size]? = some (.stringIter ds pos) ∧ Hid ((ds.data.toList.take pos).all isDig = true) ∧ Below w.heap.size w wr) (fun _ _ wr => ds.size - wr.iterPos w.heap.size)
      case atStart => exact ⟨0, by omega, rfl, World.iter_heap w ds 0, rfl, (Below.refl _ _).alloc (Nat.le_refl _) _⟩
      case round =>
        obtain ⟨pos, hpos, rfl, hit, HA, hbl⟩ := hrel
        have hpos0 := iterPos_of hit
        have hpb := pv_bd (l := ds.data.toList.take pos) (k := 9) (Nat.le_trans (kc_le _) (Nat.le_trans (List.length_take_le _ _) (by omega)))
        by_cases hp : pos < ds.size
        · by_cases hasc : (ds[pos]'hp).toNat < 128
          · have hnx : ∀ ty, (Instr.next (.pointer (some ⟨w.heap.size, 0, none⟩)) true ty).run Tryd.prog wr = _ := fun ty => Lib.run_next_ascii_at wr w.heap.size ds pos ty hit hp hasc
            have hit2 := Lib.iterAt_heap wr w.heap.size ds pos (pos + 1) hit
            have hbl2 := Lib.below_iterAt hbl (Nat.le_refl _) ds (pos + 1)
            obtain ⟨W1, hW1⟩ : ∃ W1, W1 = wr.iterAt w.heap.size ds (pos + 1) := ⟨_, rfl⟩
            rw [← hW1] at hnx hit2 hbl2
            have HB := Lib.hid hbl2
            have HIT := Lib.hid hit2
            have HW := Lib.hid hpos0
            have HP := Lib.hid (pv_step ds pos hp)
            by_cases hdg : isDig (ds[pos]'hp) = true
            · have HA2 := Lib.hid (all_take_snoc ds pos hp HA.out hdg)
              have HD := Lib.hid hdg
              have hdd : 48 ≤ (ds[pos]'hp).toNat ∧ (ds[pos]'hp).toNat ≤ 57 := by simpa [isDig] using hdg
              obtain ⟨hd1, hd2⟩ := hdd
              have hcon := Lib.hid (fun w => isDec_yes (((ds[pos]'hp).toNat : Nat) : Int) w (by omega) (by omega))
              generalize pv (ds.data.toList.take pos) = V at *
              clear hW1 hit hbl hbl2 hit2 hpos0 hdg HF HT
              go_wp2_with fail
              refine (hcon.out _).mono ?_
              rintro e w' ⟨rfl, rfl⟩
              go_wp2
              refine ⟨⟨pos + 1, by omega, ?_, HIT.out, HA2.out, HB.out⟩, ?_⟩
              · rw [HP.out, if_pos HD.out]; congr 1; omega
              · rw [HW.out, iterPos_of HIT.out]; omega
            · have hdg2 : isDig (ds[pos]'hp) = false := by simpa using hdg
              have HR := Lib.hid (HF.out (fun h => not_all ds pos hp hdg2 h.2.2.1))
              have hdd : (ds[pos]'hp).toNat < 48 ∨ 57 < (ds[pos]'hp).toNat := by simp [isDig] at hdg2; omega
              have hcon := Lib.hid (fun w => isDec_no (((ds[pos]'hp).toNat : Nat) : Int) w (by omega))
              generalize pv (ds.data.toList.take pos) = V at *
              clear hW1 hit hbl hbl2 hit2 hpos0 hdg hdg2 hdd HF HT
              go_wp2_with fail
              refine (hcon.out _).mono ?_
              rintro e w' ⟨rfl, rfl⟩
              go_wp2
              go_ret2
              exact ⟨ret_res HR.out.1.symm HR.out.2.symm, HB.out⟩
          · have hge : 128 ≤ (ds[pos]'hp).toNat := by omega
            have hdec := decode_high ds pos hp hge
            have hdle := decode_le ds pos
            have hnx : ∀ ty, (Instr.next (.pointer (some ⟨w.heap.size, 0, none⟩)) true ty).run Tryd.prog wr = _ := fun ty => Lib.run_next_any_at wr w.heap.size ds pos ty hit hp
            have hbl2 := Lib.below_iterAt hbl (Nat.le_refl _) ds (pos + (Utf8.decode ds pos).2)
            have hdg2 : isDig (ds[pos]'hp) = false := by simp [isDig]; omega
            have HR := Lib.hid (HF.out (fun h => not_all ds pos hp hdg2 h.2.2.1))
            have hcon := Lib.hid (fun w => isDec_no (((Utf8.decode ds pos).1 : Nat) : Int) w (by omega))
            have HB := Lib.hid hbl2
            obtain ⟨W1, hW1⟩ : ∃ W1, W1 = wr.iterAt w.heap.size ds (pos + (Utf8.decode ds pos).2) := ⟨_, rfl⟩
            rw [← hW1] at hnx HB
            generalize (Utf8.decode ds pos).1 = rr at *
            generalize pv (ds.data.toList.take pos) = V at *
            clear hW1 hit hbl hbl2 hpos0 hdg2 hdec hdle hasc hge HF HT
            go_wp2_with fail
            refine (hcon.out _).mono ?_
            rintro e w' ⟨rfl, rfl⟩
            go_wp2
            go_ret2
            exact ⟨ret_res HR.out.1.symm HR.out.2.symm, HB.out⟩
        · obtain rfl : pos = ds.size := by omega
          have hnx : ∀ ty, (Instr.next (.pointer (some ⟨w.heap.size, 0, none⟩)) true ty).run Tryd.prog wr = _ := fun ty => Lib.run_next_end_at wr w.heap.size ds ds.size ty hit hp
          have hall : ds.data.toList.take ds.size = ds.data.toList := List.take_of_length_le (by simp)
          rw [hall] at HA hpb ⊢
          obtain ⟨V, hV⟩ : ∃ V, pv ds.data.toList = V := ⟨_, rfl⟩
          rw [hV] at hpb ⊢
          have hN : sval s.data.toList (pv ds.data.toList) = (-(V : Int)) := by rw [hV]; unfold sval; rw [if_pos hneg]
          have hcon := Lib.hid (fun w => iFormatInt_any (-(V : Int)) w (by omega) (by omega))
          have HTW := Lib.hid (HTAB.out.below hbl)
          have HB := Lib.hid hbl
          by_cases hcm : Lib.itoa (-(V : Int)) = s.data.toList
          · have HR := Lib.hid (HT.out h1 h9 HA.out (by rw [hN]; exact hcm))
            have hq : (Lib.itoa (-(V : Int)) == s.toList) = true := by rw [cmp_l]; exact decide_eq_true hcm
            have HN := Lib.hid hN
            clear hall hV hN hcm hbl hpos0 HF HT
            go_wp2_with fail
            refine (hcon.out _ HTW.out).mono ?_
            rintro e w1 ⟨rfl, hb1⟩
            have HB1 := Lib.hid hb1
            clear hb1
            go_wp2
            go_ret2
            exact ⟨ret_res (by rw [HR.out.1, HN.out]) HR.out.2.symm, HB.out.trans (HB1.out.mono HB.out.size)⟩
          · have HR := Lib.hid (HF.out (fun h => hcm (by rw [← hN]; exact h.2.2.2)))
            have hq : (Lib.itoa (-(V : Int)) == s.toList) = false := by rw [cmp_l]; exact decide_eq_false hcm
            clear hall hV hN hcm hbl hpos0 HF HT
            go_wp2_with fail
            refine (hcon.out _ HTW.out).mono ?_
            rintro e w1 ⟨rfl, hb1⟩
            have HB1 := Lib.hid hb1
            clear hb1
            go_wp2
            go_ret2
            exact ⟨ret_res HR.out.1.symm HR.out.2.symm, HB.out.trans (HB1.out.mono HB.out.size)⟩
    · have HR := Lib.hid (HF.out (fun h => h9 (by omega)))
      have g1 : decide ((ds.size : Int) < 1) = false := decide_eq_false (by omega)
      clear hlen HF HT
      go_enter Tryd.func98, Tryd.ntmps98
      go_wp2
      go_ret2
      exact ⟨ret_res HR.out.1.symm HR.out.2.symm, Below.refl _ _⟩
  · have HR := Lib.hid (HF.out (fun h => h1 (by omega)))
    clear hlen HF HT
    go_enter Tryd.func98, Tryd.ntmps98
    go_wp2
    go_ret2
    exact ⟨ret_res HR.out.1.symm HR.out.2.symm, Below.refl _ _⟩

set_option maxRecDepth 100000 in
set_option maxHeartbeats 4000000 in
theorem iParseInt_pos (s : ByteArray) (w : World) (hs : s.size ≤ 1048576) (ht : Tab w) (hneg : ¬ sgn s.data.toList = true) :
    Calls Tryd.prog 98 #[.string s] w fun e w' => e = .returned (.tuple #[.int .i64 (iRes s.data.toList), .bool (iOk s.data.toList)]) ∧ Below w.heap.size w w' := by
  have HTAB := Lib.hid ht
  clear ht
  have hdl : s.data.toList = dpart s.data.toList := by
    unfold dpart
    rw [if_neg hneg]
  have hlen : s.data.toList.length = s.size := by simp
  have HF : Hid (¬ (1 ≤ s.data.toList.length ∧ s.data.toList.length ≤ 9 ∧ s.data.toList.all isDig = true ∧ Lib.itoa (sval s.data.toList (pv s.data.toList)) = s.data.toList) → iRes s.data.toList = 0 ∧ iOk s.data.toList = false) := i_no _ _ hdl
  have HT : Hid (1 ≤ s.size → s.size ≤ 9 → s.data.toList.all isDig = true → Lib.itoa (sval s.data.toList (pv s.data.toList)) = s.data.toList → iRes s.data.toList = sval s.data.toList (pv s.data.toList) ∧ iOk s.data.toList = true) := fun a b => i_yes _ _ hdl (by omega) (by omega)
  clear hdl
  by_cases h1 : 1 ≤ s.size
  · have hb := sgn_other hneg (Nat.lt_of_lt_of_le Nat.zero_lt_one h1)
    have he : s.toList.isEmpty = false := by
      rw [Lib.toList_data, List.isEmpty_eq_false_iff]
      intro h
      have hl : s.data.toList.length = s.size := by simp
      rw [h, List.length_nil] at hl
      omega
    by_cases h9 : s.size ≤ 9
    · have g1 : decide ((s.size : Int) < 1) = false := decide_eq_false (by omega)
      have g2 : decide (9 < (s.size : Int)) = false := decide_eq_false (by omega)
      clear hlen
      go_enter Tryd.func98, Tryd.ntmps98
      go_wp2
      go_loopw [6, 8] (fun nv _ wr => ∃ pos : Nat, pos ≤ s.size ∧ nv = .int .i64 (pv (s.data.toList.take pos)) ∧ wr.heap[w.heap.size]? = some (.stringIter s pos) ∧ Hid ((s.data.toList.take pos).all isDig = true) ∧ Below w.heap.size w wr) (fun _ _ wr => s.size - wr.iterPos w.heap.size)
      case atStart => exact ⟨0, by omega, rfl, World.iter_heap w s 0, rfl, (Below.refl _ _).alloc (Nat.le_refl _) _⟩
      case round =>
        obtain ⟨pos, hpos, rfl, hit, HA, hbl⟩ := hrel
        have hpos0 := iterPos_of hit
        have hpb := pv_bd (l := s.data.toList.take pos) (k := 9) (Nat.le_trans (kc_le _) (Nat.le_trans (List.length_take_le _ _) (by omega)))
        by_cases hp : pos < s.size
        · by_cases hasc : (s[pos]'hp).toNat < 128
          · have hnx : ∀ ty, (Instr.next (.pointer (some ⟨w.heap.size, 0, none⟩)) true ty).run Tryd.prog wr = _ := fun ty => Lib.run_next_ascii_at wr w.heap.size s pos ty hit hp hasc
            have hit2 := Lib.iterAt_heap wr w.heap.size s pos (pos + 1) hit
            have hbl2 := Lib.below_iterAt hbl (Nat.le_refl _) s (pos + 1)
            obtain ⟨W1, hW1⟩ : ∃ W1, W1 = wr.iterAt w.heap.size s (pos + 1) := ⟨_, rfl⟩
            rw [← hW1] at hnx hit2 hbl2
            have HB := Lib.hid hbl2
            have HIT := Lib.hid hit2
            have HW := Lib.hid hpos0
            have HP := Lib.hid (pv_step s pos hp)
            by_cases hdg : isDig (s[pos]'hp) = true
            · have HA2 := Lib.hid (all_take_snoc s pos hp HA.out hdg)
              have HD := Lib.hid hdg
              have hdd : 48 ≤ (s[pos]'hp).toNat ∧ (s[pos]'hp).toNat ≤ 57 := by simpa [isDig] using hdg
              obtain ⟨hd1, hd2⟩ := hdd
              have hcon := Lib.hid (fun w => isDec_yes (((s[pos]'hp).toNat : Nat) : Int) w (by omega) (by omega))
              generalize pv (s.data.toList.take pos) = V at *
              clear hW1 hit hbl hbl2 hit2 hpos0 hdg HF HT
              go_wp2_with fail
              refine (hcon.out _).mono ?_
              rintro e w' ⟨rfl, rfl⟩
              go_wp2
              refine ⟨⟨pos + 1, by omega, ?_, HIT.out, HA2.out, HB.out⟩, ?_⟩
              · rw [HP.out, if_pos HD.out]; congr 1; omega
              · rw [HW.out, iterPos_of HIT.out]; omega
            · have hdg2 : isDig (s[pos]'hp) = false := by simpa using hdg
              have HR := Lib.hid (HF.out (fun h => not_all s pos hp hdg2 h.2.2.1))
              have hdd : (s[pos]'hp).toNat < 48 ∨ 57 < (s[pos]'hp).toNat := by simp [isDig] at hdg2; omega
              have hcon := Lib.hid (fun w => isDec_no (((s[pos]'hp).toNat : Nat) : Int) w (by omega))
              generalize pv (s.data.toList.take pos) = V at *
              clear hW1 hit hbl hbl2 hit2 hpos0 hdg hdg2 hdd HF HT
              go_wp2_with fail
              refine (hcon.out _).mono ?_
              rintro e w' ⟨rfl, rfl⟩
              go_wp2
              go_ret2
              exact ⟨ret_res HR.out.1.symm HR.out.2.symm, HB.out⟩
          · have hge : 128 ≤ (s[pos]'hp).toNat := by omega
            have hdec := decode_high s pos hp hge
            have hdle := decode_le s pos
            have hnx : ∀ ty, (Instr.next (.pointer (some ⟨w.heap.size, 0, none⟩)) true ty).run Tryd.prog wr = _ := fun ty => Lib.run_next_any_at wr w.heap.size s pos ty hit hp
            have hbl2 := Lib.below_iterAt hbl (Nat.le_refl _) s (pos + (Utf8.decode s pos).2)
            have hdg2 : isDig (s[pos]'hp) = false := by simp [isDig]; omega
            have HR := Lib.hid (HF.out (fun h => not_all s pos hp hdg2 h.2.2.1))
            have hcon := Lib.hid (fun w => isDec_no (((Utf8.decode s pos).1 : Nat) : Int) w (by omega))
            have HB := Lib.hid hbl2
            obtain ⟨W1, hW1⟩ : ∃ W1, W1 = wr.iterAt w.heap.size s (pos + (Utf8.decode s pos).2) := ⟨_, rfl⟩
            rw [← hW1] at hnx HB
            generalize (Utf8.decode s pos).1 = rr at *
            generalize pv (s.data.toList.take pos) = V at *
            clear hW1 hit hbl hbl2 hpos0 hdg2 hdec hdle hasc hge HF HT
            go_wp2_with fail
            refine (hcon.out _).mono ?_
            rintro e w' ⟨rfl, rfl⟩
            go_wp2
            go_ret2
            exact ⟨ret_res HR.out.1.symm HR.out.2.symm, HB.out⟩
        · obtain rfl : pos = s.size := by omega
          have hnx : ∀ ty, (Instr.next (.pointer (some ⟨w.heap.size, 0, none⟩)) true ty).run Tryd.prog wr = _ := fun ty => Lib.run_next_end_at wr w.heap.size s s.size ty hit hp
          have hall : s.data.toList.take s.size = s.data.toList := List.take_of_length_le (by simp)
          rw [hall] at HA hpb ⊢
          obtain ⟨V, hV⟩ : ∃ V, pv s.data.toList = V := ⟨_, rfl⟩
          rw [hV] at hpb ⊢
          have hN : sval s.data.toList (pv s.data.toList) = (V : Int) := by rw [hV]; unfold sval; rw [if_neg hneg]
          have hcon := Lib.hid (fun w => iFormatInt_any (V : Int) w (by omega) (by omega))
          have HTW := Lib.hid (HTAB.out.below hbl)
          have HB := Lib.hid hbl
          by_cases hcm : Lib.itoa (V : Int) = s.data.toList
          · have HR := Lib.hid (HT.out h1 h9 HA.out (by rw [hN]; exact hcm))
            have hq : (Lib.itoa (V : Int) == s.toList) = true := by rw [cmp_l]; exact decide_eq_true hcm
            have HN := Lib.hid hN
            clear hall hV hN hcm hbl hpos0 HF HT
            go_wp2_with fail
            refine (hcon.out _ HTW.out).mono ?_
            rintro e w1 ⟨rfl, hb1⟩
            have HB1 := Lib.hid hb1
            clear hb1
            go_wp2
            go_ret2
            exact ⟨ret_res (by rw [HR.out.1, HN.out]) HR.out.2.symm, HB.out.trans (HB1.out.mono HB.out.size)⟩
          · have HR := Lib.hid (HF.out (fun h => hcm (by rw [← hN]; exact h.2.2.2)))
            have hq : (Lib.itoa (V : Int) == s.toList) = false := by rw [cmp_l]; exact decide_eq_false hcm
            clear hall hV hN hcm hbl hpos0 HF HT
            go_wp2_with fail
            refine (hcon.out _ HTW.out).mono ?_
            rintro e w1 ⟨rfl, hb1⟩
            have HB1 := Lib.hid hb1
            clear hb1
            go_wp2
            go_ret2
            exact ⟨ret_res HR.out.1.symm HR.out.2.symm, HB.out.trans (HB1.out.mono HB.out.size)⟩
    · have HR := Lib.hid (HF.out (fun h => h9 (by omega)))
      have g1 : decide ((s.size : Int) < 1) = false := decide_eq_false (by omega)
      clear hlen HF HT
      go_enter Tryd.func98, Tryd.ntmps98
      go_wp2
      go_ret2
      exact ⟨ret_res HR.out.1.symm HR.out.2.symm, Below.refl _ _⟩
  · have HR := Lib.hid (HF.out (fun h => h1 (by omega)))
    have he : s.toList.isEmpty = true := by
      rw [Lib.toList_data, List.isEmpty_iff]
      have hl : s.data.toList.length = s.size := by simp
      exact List.length_eq_zero_iff.1 (by omega)
    have g1 : decide ((s.size : Int) < 1) = true := decide_eq_true (by omega)
    clear hlen HF HT
    go_enter Tryd.func98, Tryd.ntmps98
    go_wp2
    go_ret2
    exact ⟨ret_res HR.out.1.symm HR.out.2.symm, Below.refl _ _⟩

theorem iParseInt_any (s : ByteArray) (w : World) (hs : s.size ≤ 1048576) (ht : Tab w) :
    Calls Tryd.prog 98 #[.string s] w fun e w' => e = .returned (.tuple #[.int .i64 (sRes s.data.toList), .bool (sOk s.data.toList)]) ∧ Below w.heap.size w w' := by
  rw [← iRes_eq, (ok_eq _).1]
  by_cases h : sgn s.data.toList = true
  · exact iParseInt_neg s w hs ht h
  · exact iParseInt_pos s w hs ht h
end Go.Proofs.YtnbljidjbknleaaDoor
