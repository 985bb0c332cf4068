/- Contracts: spec.l2Cut (a text cut at a byte), spec.l3Args. -/
import Derived.Test.YtchcifikopmfoaaGreatDoorOwnC
import Derived.Test.YtchcifikopmfoaaGreatDoorPterm
import Derived.Laws.Strings2
namespace Go.Proofs.YtchcifikopmfoaaGreatDoor
open Go.RowKit
set_option linter.unusedVariables false

def cutGo (c : UInt8) : List UInt8 → List UInt8 → List (List UInt8)
  | [], part => [part]
  | b :: r, part => if b = c then part :: cutGo c r [] else cutGo c r (part ++ [b])
def cutL (c : UInt8) (l : List UInt8) : List (List UInt8) := cutGo c l []
theorem cutGo_len (c : UInt8) (l part : List UInt8) : (cutGo c l part).length ≤ l.length + 1 := by
  induction l generalizing part with
  | nil => simp [cutGo]
  | cons b r ih =>
    unfold cutGo
    split
    · have := ih []; simp; omega
    · have := ih (part ++ [b]); simp; omega
theorem cutGo_mem (c : UInt8) (l part : List UInt8) : ∀ x ∈ cutGo c l part, x.length ≤ l.length + part.length := by
  induction l generalizing part with
  | nil => intro x hx; simp [cutGo] at hx; subst hx; simp
  | cons b r ih =>
    intro x hx
    unfold cutGo at hx
    split at hx
    · rcases List.mem_cons.1 hx with rfl | hx
      · simp
      · have := ih [] x hx; simp at this ⊢; omega
    · have := ih (part ++ [b]) x hx; simp at this ⊢; omega
theorem info_str : (Tryz.prog.info? 9).map (fun i => (i.zero, i.size, i.bytes)) = some (some (.string ByteArray.empty), 1, 16) := by kernel_rfl
theorem byte_slice (s : ByteArray) (i : Nat) (h : i < s.size) : s.extract i (i + 1) = bs [s[i]] := by
  apply ByteArray.ext
  apply Array.ext'
  rw [Lib.extract_data]
  have h2 : i < s.data.toList.length := by simpa using h
  rw [List.drop_eq_getElem_cons h2, show i + 1 - i = 1 from by omega]
  rfl
theorem bs_app1 (a : List UInt8) (b : UInt8) : bs a ++ bs [b] = bs (a ++ [b]) := by
  apply ByteArray.ext; simp [bs]
theorem drop_cons (s : ByteArray) (i : Nat) (h : i < s.size) : s.data.toList.drop i = s[i] :: s.data.toList.drop (i + 1) := by
  rw [List.drop_eq_getElem_cons (by simpa using h)]; rfl

set_option maxHeartbeats 2000000 in
theorem sCut_any (s : ByteArray) (c : UInt8) (w : World) (hs : s.size ≤ 1048576) :
    Calls Tryz.prog 15 #[.string s, .int .u8 c.toNat] w (GaveD (fun w' v => RdStrs w' v ((cutL c s.data.toList).map bs) ∧ NewV w.heap.size v) w) := by
  go_enter Tryz.func15, Tryz.ntmps15
  go_wp2_with fail
  have hb0 : BuiltC 9 1 w (w.alloc (.cells #[] 9)) (.slice (some ⟨w.heap.size, 0, none⟩) 0 0) 0 [] := BuiltC.lit _ 1 w w 0 [] (Nat.zero_le _) rfl (Below.refl _ _)
  have HB0 := Lib.hid hb0
  clear hb0
  go_loopw [5, 6, 7] (fun ov pv iv wr => ∃ (i : Nat) (done : List (List UInt8)) (part : List UInt8), i ≤ s.size ∧ iv = .int .i64 i ∧ pv = .string (bs part) ∧ part.length ≤ i ∧ done.length ≤ i ∧ BuiltC 9 1 w wr ov done.length ((done.map bs).map Value.string) ∧ Hid (done ++ cutGo c (s.data.toList.drop i) part = cutL c s.data.toList)) (fun _ _ iv _ => s.size - (intOf iv).toNat)
  case atStart => exact ⟨0, [], [], by omega, rfl, rfl, by simp, by simp, by simpa using HB0.out, rfl⟩
  case round =>
    obtain ⟨i, done, part, hi, rfl, rfl, hp, hd, hown, HE⟩ := hrel
    have HOWN := Lib.hid hown
    by_cases hlt : i < s.size
    · have hx := byte_slice s i hlt
      have HDC := Lib.hid (drop_cons s i hlt)
      have hi0 : (0 : Int) ≤ i := by omega
      have hi1 : (i : Int) < s.size := by omega
      by_cases hc : s[i] = c
      · have HC := Lib.hid hc
        have q : (((s[i]'hlt).toNat : Int) == (c.toNat : Int)) = true := by rw [hc]; simp
        clear hown hc
        go_wp2_with (at_builtin; refine wpList_app1C rfl (.tmp 20) (.tmp 22) 40 rfl 9 (.string ByteArray.empty) 1 16 Tryz.underlying40 info_str (by decide) (by decide) rfl _ _ _ rfl HOWN.out [.string (bs part)] rfl (by simp [Value.oneCell']) rfl (by omega) ?_)
        intro v' w' hown'
        have HO2 := Lib.hid hown'
        clear hown'
        go_wp2_with fail
        refine ⟨⟨i + 1, done ++ [part], [], by omega, by simp, by first | rfl | trivial | simp, by simp, by simp; omega, ?_, ?_⟩, by simp [intOf]; omega⟩
        · simpa using HO2.out
        · have := HE.out
          rw [HDC.out] at this
          unfold cutGo at this
          rw [if_pos HC.out] at this
          unfold Hid
          rw [← this]; simp
      · have HC := Lib.hid hc
        have q : (((s[i]'hlt).toNat : Int) == (c.toNat : Int)) = false := by
          have : (s[i]'hlt).toNat ≠ c.toNat := fun e => hc (UInt8.toNat_inj.1 e)
          exact beq_eq_false_iff_ne.2 (by omega)
        have hsl := fun (w : World) => run_slice_string (P := Tryz.prog) (w := w) 9 s .i64 .i64 i ((i : Int) + 1) Tryz.underlying9 (by omega) (by omega) (by omega)
        have e1 : ((i : Int) + 1).toNat = i + 1 := by omega
        rw [e1, Int.toNat_natCast, hx] at hsl
        clear hown hc hx e1
        go_wp2_with fail
        refine ⟨⟨i + 1, done, part ++ [s[i]'hlt], by omega, by simp, ?_, by simp; omega, by omega, HOWN.out, ?_⟩, by simp [intOf]; omega⟩
        · first | rw [bs_app1] | (congr 1; rw [← bs_app1])
        · have := HE.out
          rw [HDC.out] at this
          unfold cutGo at this
          rw [if_neg HC.out] at this
          exact this
    · obtain rfl : i = s.size := by omega
      have HF : Hid (cutL c s.data.toList = done ++ [part]) := by
        have := HE.out
        rw [List.drop_eq_nil_of_le (by simp)] at this
        exact this.symm
      clear hown
      go_wp2_with (at_builtin; refine wpList_app1C rfl (.tmp 31) (.tmp 33) 40 rfl 9 (.string ByteArray.empty) 1 16 Tryz.underlying40 info_str (by decide) (by decide) rfl _ _ _ rfl HOWN.out [.string (bs part)] rfl (by simp [Value.oneCell']) rfl (by omega) ?_)
      intro v' w' hown'
      have HO2 := Lib.hid hown'
      clear hown'
      go_wp2_with fail
      go_ret
      refine ⟨_, rfl, ⟨?_, HO2.out.newV⟩, HO2.out.2⟩
      rw [HF.out]
      exact RdStrs.ofBuilt (by simpa using HO2.out)

def pterm1 (p : List UInt8) : Int := if tOk p then tRes p else -1000
def pargs (l : List UInt8) : List Int := if l.isEmpty then [] else (cutL 44 l).map pterm1
theorem bs_data (l : List UInt8) : (bs l).data.toList = l := rfl
theorem pterm1_inI (p : List UInt8) : inI (pterm1 p) := by
  have h1 := tcand_bd p
  unfold inI pterm1
  split
  · unfold tRes
    split <;> omega
  · omega
theorem pargs_inI (l : List UInt8) : ∀ x ∈ pargs l, inI x := by
  intro x hx
  unfold pargs at hx
  split at hx
  · simp at hx
  · obtain ⟨p, _, rfl⟩ := List.mem_map.1 hx; exact pterm1_inI p
theorem tRes_no {l : List UInt8} (h : tOk l = false) : tRes l = 0 := by unfold tRes; rw [h]; rfl
theorem map_take_snoc {α β : Type} (f : α → β) (l : List α) (i : Nat) (h : i < l.length) : (l.take (i + 1)).map f = (l.take i).map f ++ [f l[i]] := by
  rw [List.take_succ_eq_append_getElem h, List.map_append]; rfl
theorem info_int : (Tryz.prog.info? 3).map (fun i => (i.zero, i.size, i.bytes)) = some (some (.int .i64 0), 1, 8) := by kernel_rfl

set_option maxHeartbeats 2000000 in
theorem sArgs_any (s : ByteArray) (w : World) (hs : s.size ≤ 1048576) :
    Calls Tryz.prog 14 #[.string s] w (GaveInts w (pargs s.data.toList)) := by
  have hll : s.data.toList.length = s.size := by simp
  by_cases h0 : s.size = 0
  · have hl : s.data.toList = [] := List.eq_nil_of_length_eq_zero (by omega)
    have he : s.toList.isEmpty = true := by rw [Lib.toList_data, hl]; rfl
    have HP : Hid (pargs s.data.toList = []) := by rw [hl]; rfl
    have hb := Built.lit .i64 3 w w [] (Nat.zero_le _) (Below.refl _ _)
    obtain ⟨bs', ho, hn, hlo⟩ := OInts.ofBuilt hb (fun x h => by simp at h)
    have HO := Lib.hid ho
    have HF : Hid (Fresh w (w.alloc (.cells (([] : List Int).map (Value.int .i64)).toArray 3)) bs') := ⟨hn, hlo⟩
    have HB := Lib.hid hb.2
    clear hl hll h0 ho hn hlo hb
    go_enter Tryz.func14, Tryz.ntmps14
    go_wp2_with fail
    go_ret
    exact ⟨_, bs', rfl, by rw [HP.out]; exact HO.out, HF.out, HB.out⟩
  · have hne : s.data.toList ≠ [] := fun e => h0 (by rw [← hll, e]; rfl)
    have he : s.toList.isEmpty = false := by rw [Lib.toList_data, List.isEmpty_eq_false_iff]; exact hne
    have HP : Hid (pargs s.data.toList = (cutL 44 s.data.toList).map pterm1) := by
      unfold Hid pargs
      rw [if_neg (by simpa using hne)]
    have hcut := Lib.hid (fun w => sCut_any s 44 w hs)
    have hpt := Lib.hid (fun p (h : (bs p).size ≤ 1048576) w => sParseTerm_any (bs p) w h)
    have hlen := cutGo_len 44 s.data.toList []
    have hmem : Hid (∀ x ∈ cutL 44 s.data.toList, (bs x).size ≤ 1048576) := fun x hx => by
      rw [bs_size]
      have := cutGo_mem 44 s.data.toList [] x hx
      simp at this; omega
    have hL1 : (cutL 44 s.data.toList).length ≤ 1048577 := by unfold cutL; omega
    have HI := Lib.hid (pargs_inI s.data.toList)
    rw [HP.out] at HI ⊢
    generalize cutL 44 s.data.toList = C at *
    clear hne hll h0 hlen HP
    go_enter Tryz.func14, Tryz.ntmps14
    go_wp2_with fail
    have hb0 := Built.lit .i64 3 w w [] (Nat.zero_le _) (Below.refl _ _)
    have HB0 := Lib.hid hb0
    refine (hcut.out _).mono ?_
    rintro e w1 ⟨v, rfl, ⟨hr, hnv⟩, hb⟩
    obtain ⟨a, n, cap, rfl, hl, hn, hm, hcell⟩ := hr.cases
    have hnb : Hid (∀ b off, a = some ⟨b, off, none⟩ → w.heap.size + 1 ≤ b) := by
      rintro b off rfl
      have h5 : (w.alloc (.cells (([] : List Int).map (Value.int .i64)).toArray 3)).heap.size ≤ b := hnv
      simpa using h5
    rw [List.length_map] at hl
    have hb1 : Built .i64 3 w w1 (.slice (some ⟨w.heap.size, 0, none⟩) 0 0) [] := hb0.grow hb
    have HB1 := Lib.hid hb1
    have HC := Lib.hid hcell
    have HL := Lib.hid hl
    unfold maxLen at hm
    clear hb0 hb1 hb hr hcell hl hnv
    go_wp2_with fail
    go_loopw [3, 5] (fun ov iv wr => ∃ i : Nat, i ≤ n ∧ iv = .int .i64 i ∧ Built .i64 3 w wr ov ((C.take i).map pterm1) ∧ Hid (∀ b off, 0 < n → a = some ⟨b, off, none⟩ → b ∉ blk ov ∧ b < wr.heap.size ∧ ∀ j, j < n → wr.cell? ⟨b, off + j, none⟩ = some (.string ((C.map bs).getD j ByteArray.empty)))) (fun _ iv _ => n - (intOf iv).toNat)
    case atStart =>
      refine ⟨0, by omega, rfl, by simpa using HB1.out, fun b off hn0 ha => ?_⟩
      obtain ⟨b', off', ha', hbw, hc⟩ := HC.out hn0
      rw [ha'] at ha
      cases ha
      have := hnb.out b off ha'
      exact ⟨by simp [blk]; omega, hbw, hc⟩
    case round =>
      obtain ⟨i, hi, rfl, hown, HK⟩ := hrel
      obtain ⟨ov, hov⟩ : ∃ ov, ov = u3 := ⟨_, rfl⟩
      subst hov
      have HOWN := Lib.hid hown
      by_cases hlt : i < n
      · obtain ⟨b, off, rfl, _, _⟩ := HC.out (by omega)
        have hiC : i < C.length := by rw [HL.out]; exact hlt
        have hkk := HK.out b off (by omega) rfl
        have c1 := hkk.2.2 i hlt
        have e1 : (C.map bs).getD i ByteArray.empty = bs C[i] := by simp [List.getD, List.getElem?_eq_getElem hiC]
        rw [e1] at c1
        have HKK := Lib.hid hkk
        have hpt1 : Hid (∀ w, Calls Tryz.prog 28 #[.string (bs C[i])] w fun e w' => e = .returned (.tuple #[.int .i64 (tRes C[i]), .bool (tOk C[i])]) ∧ Below w.heap.size w w') := hpt.out C[i] (hmem.out _ (List.getElem_mem hiC))
        have HS := Lib.hid (map_take_snoc pterm1 C i hiC)
        have hln : ((C.take i).map pterm1).length ≤ i := by simp; omega
        have hi0 : (0 : Int) ≤ i := by omega
        have hi1 : (i : Int) < n := by omega
        generalize C[i] = p at *
        generalize (C.take i).map pterm1 = L at *
        clear e1 hown hkk
        cases ho : tOk p
        all_goals
          have HP : Hid (pterm1 p = if tOk p then tRes p else -1000) := rfl
          rw [ho] at hpt1 HP
          try rw [tRes_no ho] at hpt1
          try rw [tRes_no ho] at HP
          generalize tRes p = T at *
          clear ho
          go_wp2_with fail
          refine (hpt1.out _).mono ?_
          rintro e w2 ⟨rfl, hb⟩
          have hown : BuiltC 3 1 w w2 ov L.length (L.map (Value.int .i64)) := HOWN.out.grow hb
          have HK2 : Hid (b < w2.heap.size ∧ ∀ j, j < n → w2.cell? ⟨b, off + j, none⟩ = some (.string ((C.map bs).getD j ByteArray.empty))) := ⟨Nat.lt_of_lt_of_le HKK.out.2.1 hb.size, fun j hj => cellk hb (HKK.out.2.2 j hj)⟩
          clear hb
          go_wp2_with (first | (at_builtin; refine wpList_app1D rfl (.tmp 30) (.tmp 32) 22 rfl 3 (.int .i64 0) 1 8 Tryz.underlying22 info_int (by decide) (by decide) rfl _ _ _ rfl hown [.int .i64 T] rfl (by simp [Value.oneCell']) rfl (by omega) ?_) | (at_builtin; refine wpList_app1D rfl (.tmp 30) (.tmp 32) 22 rfl 3 (.int .i64 0) 1 8 Tryz.underlying22 info_int (by decide) (by decide) rfl _ _ _ rfl hown [.int .i64 (-1000)] rfl (by simp [Value.oneCell']) rfl (by omega) ?_))
          intro v' w3 hown' hat hblk
          have HO3 := Lib.hid (Built.ofC hown')
          have HAT := Lib.hid hat
          have HBLK := Lib.hid hblk
          clear hown' hown hat hblk
          go_wp2_with fail
          refine ⟨⟨i + 1, by omega, by simp, ?_, ?_⟩, by simp [intOf]; omega⟩
          · have := HO3.out
            rw [HS.out, HP.out]; exact this
          · rintro b' off' _ ha
            cases ha
            refine ⟨fun hm => ?_, Nat.lt_of_lt_of_le HK2.out.1 HAT.out.size, fun j hj => HAT.out.cell HKK.out.1 (HK2.out.2 j hj)⟩
            rcases HBLK.out _ hm with h5 | h5
            · exact HKK.out.1 h5
            · have := HK2.out.1; omega
      · obtain rfl : i = n := by omega
        have HT : Hid ((C.take i).map pterm1 = C.map pterm1) := by unfold Hid; rw [List.take_of_length_le (by rw [HL.out]; exact Nat.le_refl _)]
        clear hown
        go_wp2_with fail
        go_ret
        have h5 := HOWN.out
        rw [HT.out] at h5
        exact h5.owns HI.out
end Go.Proofs.YtchcifikopmfoaaGreatDoor
