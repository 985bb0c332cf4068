/- Contracts: spec.DecodeHex and impl.DecodeHex, second part: the loops. -/
import Derived.Test.YtfpfapkidbhaoaaDoorDhex
namespace Go.Proofs.YtfpfapkidbhaoaaDoor
open Go.RowKit
set_option linter.unusedVariables false

def hx (s : ByteArray) (j : Nat) : Int := hexV ((s.data.toList.getD j 0).toNat : Int)
theorem hx_at (s : ByteArray) (j : Nat) (h : j < s.size) : hexV ((s[j].toNat : Nat) : Int) = hx s j := by
  have hl : j < s.data.toList.length := by simpa using h
  unfold hx
  rw [List.getD, List.getElem?_eq_getElem hl]
  rfl
theorem hx_bd (s : ByteArray) (j : Nat) : -1 ≤ hx s j ∧ hx s j < 16 := hexV_bd _
def pair (s : ByteArray) (i : Nat) : Int := 16 * hx s (2 * i) + hx s (2 * i + 1)
def pairs (s : ByteArray) (m : Nat) : List Int := (List.range m).map (pair s)
theorem pairs_succ (s : ByteArray) (m : Nat) : pairs s (m + 1) = pairs s m ++ [pair s m] := by simp [pairs, List.range_succ]
theorem pairs_length (s : ByteArray) (m : Nat) : (pairs s m).length = m := by simp [pairs]

def part (s : ByteArray) (n k : Nat) : List Int := (List.range n).map fun i => if 2 * i + 1 < k then pair s i else if 2 * i < k then hx s (2 * i) else 0
theorem part_length (s : ByteArray) (n k : Nat) : (part s n k).length = n := by simp [part]
theorem part_zero (s : ByteArray) (n : Nat) : part s n 0 = List.replicate n 0 := by
  apply List.ext_getElem
  · simp [part]
  · intro i h1 h2; simp [part]
theorem part_full (s : ByteArray) (n k : Nat) (h : k = 2 * n) : part s n k = pairs s n := by
  apply List.ext_getElem
  · simp [part, pairs]
  · intro i h1 h2
    have : i < n := by simpa [part] using h1
    simp only [part, pairs, List.getElem_map, List.getElem_range]
    rw [if_pos (by omega)]
theorem part_at (s : ByteArray) (n k : Nat) (h : k / 2 < n) : (part s n k).getD (k / 2) 0 = if k % 2 = 1 then hx s (k - 1) else 0 := by
  have hl : k / 2 < (part s n k).length := by rw [part_length]; exact h
  rw [List.getD, List.getElem?_eq_getElem hl]
  simp only [part, List.getElem_map, List.getElem_range, Option.getD_some]
  rw [if_neg (by omega)]
  by_cases hk : k % 2 = 1
  · rw [if_pos (by omega), if_pos hk, show 2 * (k / 2) = k - 1 from by omega]
  · rw [if_neg (by omega), if_neg hk]
theorem part_set (s : ByteArray) (n k : Nat) (h : k / 2 < n) : (part s n k).set (k / 2) (if k % 2 = 1 then 16 * hx s (k - 1) + hx s k else hx s k) = part s n (k + 1) := by
  apply List.ext_getElem
  · simp [part]
  · intro i h1 h2
    have hi : i < n := by simpa [part] using h2
    rw [List.getElem_set]
    simp only [part, List.getElem_map, List.getElem_range]
    by_cases e : k / 2 = i
    · rw [if_pos e]
      by_cases hk : k % 2 = 1
      · rw [if_pos hk, if_pos (by omega), pair, show 2 * i = k - 1 from by omega, show k - 1 + 1 = k from by omega]
      · rw [if_neg hk, if_neg (by omega), if_pos (by omega), show 2 * i = k from by omega]
    · rw [if_neg e]
      by_cases c1 : 2 * i + 1 < k
      · rw [if_pos c1, if_pos (by omega)]
      · by_cases c2 : 2 * i < k
        · omega
        · rw [if_neg c1, if_neg c2, if_neg (show ¬ 2 * i + 1 < k + 1 by omega), if_neg (show ¬ 2 * i < k + 1 by omega)]
theorem or_hex (a b : Int) (h0 : 0 ≤ a) (h1 : a < 16) (h2 : 0 ≤ b) (h3 : b < 16) : bits .or .u8 (a * 16) b = 16 * a + b := by
  have := bits_join .u8 8 (by decide) wraps_u8 4 (a * 16) b (by omega) (by omega) (by omega) (by omega) (by omega) (by omega)
  rw [this]; omega
theorem Built.iterAt {k : IntKind} {E : TypeId} {w0 w : World} {v : Value} {l : List Int} (h : Built k E w0 w v l) {K : Nat} {s : ByteArray} {pos : Nat} (hk : w.heap[K]? = some (.stringIter s pos)) (hK : w0.heap.size ≤ K) (pos' : Nat) : Built k E w0 (w.iterAt K s pos') v l := by
  refine ⟨⟨h.1.1, ?_⟩, Lib.below_iterAt h.2 hK s pos'⟩
  rcases h.1.2 with hn | ⟨g, cap, cur, hv, hb, hg, rest⟩
  · exact .inl hn
  · have hne : g ≠ K := by
      intro e
      rw [e, hk] at hg
      cases hg
    exact .inr ⟨g, cap, cur, hv, hb, by rw [Lib.iterAt_other _ _ _ _ _ hne]; exact hg, rest⟩

set_option maxRecDepth 100000 in
set_option maxHeartbeats 2000000 in
theorem iDecodeHex_any (s : ByteArray) (w : World) (hs : s.size ≤ 1048576) (good : Bool) (hg : good = true → s.size % 2 = 0 ∧ ∀ j, j < s.size → 0 ≤ hx s j) (hb : good = false → s.size % 2 = 1 ∨ (s.size % 2 = 0 ∧ ∃ j, j < s.size ∧ hx s j < 0)) :
    Calls Tryd.prog 16 #[.string s] w fun e w' => e = .returned (.tuple #[.string (if good then strOfNums (pairs s (s.size / 2)) else ByteArray.empty), .bool good]) ∧ Below w.heap.size w w' := by
  by_cases hodd : s.size % 2 = 1
  · have hgf : good = false := by
      cases good
      · rfl
      · have := (hg rfl).1; omega
    subst hgf
    have q1 : ((s.size : Int) % 2 != 0) = true := by simp; omega
    clear hg hb hodd
    go_enter Tryd.func16, Tryd.ntmps16
    go_wp2
    go_ret2
    exact ⟨rfl, Below.refl _ _⟩
  · have hev : s.size % 2 = 0 := by omega
    have q1 : ((s.size : Int) % 2 != 0) = false := by simp; omega
    have q2 : ((s.size : Int) / 2) = ((s.size / 2 : Nat) : Int) := by omega
    have HG := Lib.hid hg
    have HBAD := Lib.hid hb
    obtain ⟨n, hn⟩ : ∃ n, s.size / 2 = n := ⟨_, rfl⟩
    rw [hn] at q2 ⊢
    have h2n : s.size = 2 * n := by omega
    have HN := Lib.hid h2n
    have hnb : n ≤ 1048576 := by omega
    clear hg hb hodd hev hn h2n
    go_enter Tryd.func16, Tryd.ntmps16
    go_wp2_with (at_make; refine wpList_make_built rfl (.tmp 15) (.tmp 15) 22 rfl .u8 5 0 1 Tryd.underlying22 info_u8 (by decide) (Below.refl _ w) .i64 .i64 n rfl rfl (by omega) ?_)
    intro w1 hb1
    clear q1 q2
    go_wp2
    go_loopw [5] (fun _ wr => ∃ pos : Nat, pos ≤ s.size ∧ wr.heap[w1.heap.size]? = some (.stringIter s pos) ∧ Hid (∀ j, j < pos → 0 ≤ hx s j) ∧ Built .u8 5 w wr (.slice (some ⟨w.heap.size, 0, none⟩) n n) (part s n pos)) (fun _ wr => s.size - wr.iterPos w1.heap.size)
    case atStart => exact ⟨0, by omega, World.iter_heap w1 s 0, fun j h => by omega, by rw [part_zero]; exact hb1.alloc _⟩
    case round =>
      obtain ⟨pos, hpos, hit, HJ, hbl⟩ := hrel
      have hpos0 := iterPos_of hit
      have hKw : w.heap.size < w1.heap.size := (hb1.1.lt w.heap.size rfl).2
      clear hb1
      by_cases hp : pos < s.size
      · have hbound : ∀ j, hx s pos < 0 → j = good → j = false := by
          intro j hj e
          cases good
          · exact e
          · have := (HG.out rfl).2 pos hp; omega
        by_cases hasc : (s[pos]'hp).toNat < 128
        · have hnx : ∀ ty, (Instr.next (.pointer (some ⟨w1.heap.size, 0, none⟩)) true ty).run Tryd.prog wr = _ := fun ty => Lib.run_next_ascii_at wr w1.heap.size s pos ty hit hp hasc
          have hit2 := Lib.iterAt_heap wr w1.heap.size s pos (pos + 1) hit
          have hbl2 := hbl.iterAt hit (Nat.le_of_lt hKw) (pos + 1)
          have hxe := hx_at s pos hp
          obtain ⟨W1, hW1⟩ : ∃ W1, W1 = wr.iterAt w1.heap.size s (pos + 1) := ⟨_, rfl⟩
          rw [← hW1] at hnx hit2 hbl2
          by_cases hv : hx s pos < 0
          · obtain rfl := (hbound good hv rfl)
            have hc := Lib.hid (fun w => hexDigit_no ((s[pos].toNat : Nat) : Int) w (by rw [hxe]; exact hv))
            have HBL := Lib.hid hbl2.below
            clear hW1 hit hbl hbl2 hit2 hpos0 hxe hbound hv
            go_wp2_with fail
            refine (hc.out _).mono ?_
            rintro e w' ⟨rfl, rfl⟩
            go_wp2
            go_ret2
            exact ⟨rfl, HBL.out⟩
          · have hv0 : 0 ≤ hx s pos := by omega
            have hv1 := (hx_bd s pos).2
            have hc := fun w => hexDigit_yes ((s[pos].toNat : Nat) : Int) w (by rw [hxe]; exact hv0)
            rw [hxe] at hc
            have HC := Lib.hid hc
            have hq : pos / 2 < n := by have := HN.out; omega
            have hlen : n = (part s n pos).length := (part_length s n pos).symm
            have hcell := (hlen ▸ hbl2 : Built .u8 5 w W1 (.slice (some ⟨w.heap.size, 0, none⟩) (part s n pos).length (part s n pos).length) (part s n pos)).cell (pos / 2) (by rw [← hlen]; exact hq)
            rw [part_at s n pos hq] at hcell
            have hfr := hbl2.frozen hlen (pos / 2)
            have hst := Lib.hid (fun y => hbl2.store hlen (pos / 2) y)
            have hset := part_set s n pos hq
            have HJ2 : Hid (∀ j, j < pos + 1 → 0 ≤ hx s j) := by
              intro j hj
              by_cases e : j = pos
              · subst e; exact hv0
              · exact HJ.out j (by omega)
            by_cases hod : pos % 2 = 1
            · rw [if_pos hod] at hcell hset
              have p0 := HJ.out (pos - 1) (by omega)
              have p1 := (hx_bd s (pos - 1)).2
              have hor := or_hex (hx s (pos - 1)) (hx s pos) p0 p1 hv0 hv1
              have HSET := Lib.hid hset
              have HOR := Lib.hid hor
              have HIT := Lib.hid hit2
              have HW := Lib.hid hpos0
              generalize hx s pos = vv at *
              generalize hx s (pos - 1) = pp at *
              clear hW1 hit hbl hbl2 hit2 hpos0 hxe hbound hv hset hor hc hlen hod
              go_wp2_with fail
              refine (HC.out _).mono ?_
              rintro e w' ⟨rfl, rfl⟩
              go_wp2
              refine ⟨⟨pos + 1, by omega, ?_, HJ2, ?_⟩, ?_⟩
              · rw [Below.heap_setCell _ _ _ _ (by simp; omega)]; exact HIT.out
              · have h3 := hst.out (16 * pp + vv)
                rw [HSET.out] at h3
                rw [HOR.out]; exact h3
              · rw [HW.out, iterPos_of (p := pos + 1) (by rw [Below.heap_setCell _ _ _ _ (by simp; omega)]; exact HIT.out)]; omega
            · rw [if_neg hod] at hcell hset
              have hor : bits BinOp.or IntKind.u8 0 (hx s pos) = hx s pos := by
                have := or_hex 0 (hx s pos) (by omega) (by omega) hv0 hv1
                simpa using this
              have HSET := Lib.hid hset
              have HOR := Lib.hid hor
              have HIT := Lib.hid hit2
              have HW := Lib.hid hpos0
              generalize hx s pos = vv at *
              clear hW1 hit hbl hbl2 hit2 hpos0 hxe hbound hv hset hor hc hlen hod
              go_wp2_with fail
              refine (HC.out _).mono ?_
              rintro e w' ⟨rfl, rfl⟩
              go_wp2
              refine ⟨⟨pos + 1, by omega, ?_, HJ2, ?_⟩, ?_⟩
              · rw [Below.heap_setCell _ _ _ _ (by simp; omega)]; exact HIT.out
              · have h3 := hst.out vv
                rw [HSET.out] at h3
                rw [HOR.out]; exact h3
              · rw [HW.out, iterPos_of (p := pos + 1) (by rw [Below.heap_setCell _ _ _ _ (by simp; omega)]; exact HIT.out)]; omega
        · have hge : 128 ≤ (s[pos]'hp).toNat := by omega
          have hdec := decode_high s pos hp hge
          have hdle := decode_le s pos
          have hnx : ∀ ty, (Instr.next (.pointer (some ⟨w1.heap.size, 0, none⟩)) true ty).run Tryd.prog wr = _ := fun ty => Lib.run_next_any_at wr w1.heap.size s pos ty hit hp
          have hbl2 := hbl.iterAt hit (Nat.le_of_lt hKw) (pos + (Utf8.decode s pos).2)
          have hneg : ∀ x : Int, 128 ≤ x → hexV x < 0 := by
            intro x hx; unfold hexV; rw [if_neg (by omega), if_neg (by omega)]; omega
          have hv : hx s pos < 0 := by rw [← hx_at s pos hp]; exact hneg _ (by omega)
          obtain rfl := (hbound good hv rfl)
          have hc := Lib.hid (fun w => hexDigit_no (((Utf8.decode s pos).1 : Nat) : Int) w (hneg _ (by omega)))
          have HBL := Lib.hid hbl2.below
          obtain ⟨W1, hW1⟩ : ∃ W1, W1 = wr.iterAt w1.heap.size s (pos + (Utf8.decode s pos).2) := ⟨_, rfl⟩
          rw [← hW1] at hnx HBL
          generalize (Utf8.decode s pos).1 = rr at *
          clear hW1 hit hbl hbl2 hpos0 hbound hv hneg hdec hdle hasc hge
          go_wp2_with fail
          refine (hc.out _).mono ?_
          rintro e w' ⟨rfl, rfl⟩
          go_wp2
          go_ret2
          exact ⟨rfl, HBL.out⟩
      · obtain rfl : pos = s.size := by omega
        have hgt : good = true := by
          cases good
          · exfalso
            rcases HBAD.out rfl with h | ⟨_, j, hj, h⟩
            · have := HN.out; omega
            · have := HJ.out j hj; omega
          · rfl
        subst hgt
        rw [part_full s n s.size HN.out] at hbl
        have hnx : ∀ ty, (Instr.next (.pointer (some ⟨w1.heap.size, 0, none⟩)) true ty).run Tryd.prog wr = _ := fun ty => Lib.run_next_end_at wr w1.heap.size s s.size ty hit hp
        have hcv := run_string_built Tryd.underlying22 Tryd.underlying5 Tryd.underlying9 hbl
        have HBL := Lib.hid hbl.below
        clear hbl hpos0
        go_wp2
        go_ret2
        exact ⟨rfl, HBL.out⟩
end Go.Proofs.YtfpfapkidbhaoaaDoor
