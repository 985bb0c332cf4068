/- Contracts: spec.l2Cut (a text cut at a byte), spec.l3Args. -/
import Derived.Test.YtnbljidjbknleaaDoorOwnC
import Derived.Test.YtnbljidjbknleaaDoorPterm
import Derived.Laws.Strings2
namespace Go.Proofs.YtnbljidjbknleaaDoor
open Go.RowKit
set_option linter.unusedVariables false

def cutGo (c : UInt8) : List UInt8 → List UInt8 → List (List UInt8)
  | [], part => [part]
  | b :: r, part => if b = c then part :: cutGo c r [] else cutGo c r (part ++ [b])
def cutL (c : UInt8) (l : List UInt8) : List (List UInt8) := cutGo c l []
theorem cutGo_len (c : UInt8) (l part : List UInt8) : (cutGo c l part).length ≤ l.length + 1 := by
  induction l generalizing part with
  | nil => simp [cutGo]
  | cons b r ih =>
    unfold cutGo
    split
    · have := ih []; simp; omega
    · have := ih (part ++ [b]); simp; omega
theorem cutGo_mem (c : UInt8) (l part : List UInt8) : ∀ x ∈ cutGo c l part, x.length ≤ l.length + part.length := by
  induction l generalizing part with
  | nil => intro x hx; simp [cutGo] at hx; subst hx; simp
  | cons b r ih =>
    intro x hx
    unfold cutGo at hx
    split at hx
    · rcases List.mem_cons.1 hx with rfl | hx
      · simp
      · have := ih [] x hx; simp at this ⊢; omega
    · have := ih (part ++ [b]) x hx; simp at this ⊢; omega
theorem info_str : (Tryd.prog.info? 9).map (fun i => (i.zero, i.size, i.bytes)) = some (some (.string ByteArray.empty), 1, 16) := by kernel_rfl
theorem byte_slice (s : ByteArray) (i : Nat) (h : i < s.size) : s.extract i (i + 1) = bs [s[i]] := by
  apply ByteArray.ext
  apply Array.ext'
  rw [Lib.extract_data]
  have h2 : i < s.data.toList.length := by simpa using h
  rw [List.drop_eq_getElem_cons h2, show i + 1 - i = 1 from by omega]
  rfl
theorem bs_app1 (a : List UInt8) (b : UInt8) : bs a ++ bs [b] = bs (a ++ [b]) := by
  apply ByteArray.ext; simp [bs]
theorem drop_cons (s : ByteArray) (i : Nat) (h : i < s.size) : s.data.toList.drop i = s[i] :: s.data.toList.drop (i + 1) := by
  rw [List.drop_eq_getElem_cons (by simpa using h)]; rfl

set_option maxHeartbeats 2000000 in
theorem sCut_any (s : ByteArray) (c : UInt8) (w : World) (hs : s.size ≤ 1048576) :
    Calls Tryd.prog 54 #[.string s, .int .u8 c.toNat] w (GaveD (fun w' v => RdStrs w' v ((cutL c s.data.toList).map bs) ∧ NewV w.heap.size v) w) := by
  go_enter Tryd.func54, Tryd.ntmps54
  go_wp2_with fail
  have hb0 : BuiltC 9 1 w (w.alloc (.cells #[] 9)) (.slice (some ⟨w.heap.size, 0, none⟩) 0 0) 0 [] := BuiltC.lit _ 1 w w 0 [] (Nat.zero_le _) rfl (Below.refl _ _)
  have HB0 := Lib.hid hb0
  clear hb0
  go_loopw [5, 6, 7] (fun ov pv iv wr => ∃ (i : Nat) (done : List (List UInt8)) (part : List UInt8), i ≤ s.size ∧ iv = .int .i64 i ∧ pv = .string (bs part) ∧ part.length ≤ i ∧ done.length ≤ i ∧ BuiltC 9 1 w wr ov done.length ((done.map bs).map Value.string) ∧ Hid (done ++ cutGo c (s.data.toList.drop i) part = cutL c s.data.toList)) (fun _ _ iv _ => s.size - (intOf iv).toNat)
  case atStart => exact ⟨0, [], [], by omega, rfl, rfl, by simp, by simp, by simpa using HB0.out, rfl⟩
  case round =>
    obtain ⟨i, done, part, hi, rfl, rfl, hp, hd, hown, HE⟩ := hrel
    have HOWN := Lib.hid hown
    by_cases hlt : i < s.size
    · have hx := byte_slice s i hlt
      have HDC := Lib.hid (drop_cons s i hlt)
      have hi0 : (0 : Int) ≤ i := by omega
      have hi1 : (i : Int) < s.size := by omega
      by_cases hc : s[i] = c
      · have HC := Lib.hid hc
        have q : (((s[i]'hlt).toNat : Int) == (c.toNat : Int)) = true := by rw [hc]; simp
        clear hown hc
        go_wp2_with (at_builtin; refine wpList_app1C rfl (.tmp 20) (.tmp 22) 90 rfl 9 (.string ByteArray.empty) 1 16 Tryd.underlying90 info_str (by decide) (by decide) rfl _ _ _ rfl HOWN.out [.string (bs part)] rfl (by simp [Value.oneCell']) rfl (by omega) ?_)
        intro v' w' hown'
        have HO2 := Lib.hid hown'
        clear hown'
        go_wp2_with fail
        refine ⟨⟨i + 1, done ++ [part], [], by omega, by simp, by first | rfl | trivial | simp, by simp, by simp; omega, ?_, ?_⟩, by simp [intOf]; omega⟩
        · simpa using HO2.out
        · have := HE.out
          rw [HDC.out] at this
          unfold cutGo at this
          rw [if_pos HC.out] at this
          unfold Hid
          rw [← this]; simp
      · have HC := Lib.hid hc
        have q : (((s[i]'hlt).toNat : Int) == (c.toNat : Int)) = false := by
          have : (s[i]'hlt).toNat ≠ c.toNat := fun e => hc (UInt8.toNat_inj.1 e)
          exact beq_eq_false_iff_ne.2 (by omega)
        have hsl := fun (w : World) => run_slice_string (P := Tryd.prog) (w := w) 9 s .i64 .i64 i ((i : Int) + 1) Tryd.underlying9 (by omega) (by omega) (by omega)
        have e1 : ((i : Int) + 1).toNat = i + 1 := by omega
        rw [e1, Int.toNat_natCast, hx] at hsl
        clear hown hc hx e1
        go_wp2_with fail
        refine ⟨⟨i + 1, done, part ++ [s[i]'hlt], by omega, by simp, ?_, by simp; omega, by omega, HOWN.out, ?_⟩, by simp [intOf]; omega⟩
        · first | rw [bs_app1] | (congr 1; rw [← bs_app1])
        · have := HE.out
          rw [HDC.out] at this
          unfold cutGo at this
          rw [if_neg HC.out] at this
          exact this
    · obtain rfl : i = s.size := by omega
      have HF : Hid (cutL c s.data.toList = done ++ [part]) := by
        have := HE.out
        rw [List.drop_eq_nil_of_le (by simp)] at this
        exact this.symm
      clear hown
      go_wp2_with (at_builtin; refine wpList_app1C rfl (.tmp 31) (.tmp 33) 90 rfl 9 (.string ByteArray.empty) 1 16 Tryd.underlying90 info_str (by decide) (by decide) rfl _ _ _ rfl HOWN.out [.string (bs part)] rfl (by simp [Value.oneCell']) rfl (by omega) ?_)
      intro v' w' hown'
      have HO2 := Lib.hid hown'
      clear hown'
      go_wp2_with fail
      go_ret
      refine ⟨_, rfl, ⟨?_, HO2.out.newV⟩, HO2.out.2⟩
      rw [HF.out]
      exact RdStrs.ofBuilt (by simpa using HO2.out)

def pterm1 (p : List UInt8) : Int := if tOk p then tRes p else -1000
def pargs (l : List UInt8) : List Int := if l.isEmpty then [] else (cutL 44 l).map pterm1
theorem bs_data (l : List UInt8) : (bs l).data.toList = l := rfl
theorem pterm1_inI (p : List UInt8) : inI (pterm1 p) := by
  have h1 := tcand_bd p
  unfold inI pterm1
  split
  · unfold tRes
    split <;> omega
  · omega
theorem pargs_inI (l : List UInt8) : ∀ x ∈ pargs l, inI x := by
  intro x hx
  unfold pargs at hx
  split at hx
  · simp at hx
  · obtain ⟨p, _, rfl⟩ := List.mem_map.1 hx; exact pterm1_inI p
theorem tRes_no {l : List UInt8} (h : tOk l = false) : tRes l = 0 := by unfold tRes; rw [h]; rfl
theorem map_take_snoc {α β : Type} (f : α → β) (l : List α) (i : Nat) (h : i < l.length) : (l.take (i + 1)).map f = (l.take i).map f ++ [f l[i]] := by
  rw [List.take_succ_eq_append_getElem h, List.map_append]; rfl
theorem info_int : (Tryd.prog.info? 3).map (fun i => (i.zero, i.size, i.bytes)) = some (some (.int .i64 0), 1, 8) := by kernel_rfl

end Go.Proofs.YtnbljidjbknleaaDoor
