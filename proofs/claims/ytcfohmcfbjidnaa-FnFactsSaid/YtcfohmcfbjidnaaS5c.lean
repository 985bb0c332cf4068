/- Contracts of chapter 5's spec: l5Copy, l5All. -/
import Derived.Test.YtcfohmcfbjidnaaS5b
import Derived.Test.YtcfohmcfbjidnaaAppInts
import Derived.Test.YtcfohmcfbjidnaaOutInv
import Derived.Deep.RegionLaw
namespace Go.Proofs.Ytcfohmcfbjidnaa
open Go Go.Sort Go.RowKit
set_option linter.unusedVariables false

set_option maxRecDepth 100000 in
set_option maxHeartbeats 4000000 in
theorem sCopy5_any (w : World) (v : Value) (f : AtomD) (h : RdAtom w v f) (hz : f.2.length ≤ 1048576) :
    Calls Try.prog 51 #[v] w (GaveO (fun w' v' bs => ROAtom w' v' f bs) w) := by
  obtain ⟨r, l⟩ := f
  obtain ⟨a, n, c, rfl, hi, h⟩ := h
  change l.length ≤ 1048576 at hz
  change inI r at hi
  change Ints w (.slice a n c) l at h
  change Calls _ _ #[.agg #[.int .i64 r, .slice a n c]] _ _
  have hb0 : ∀ o p, Below w.heap.size w ((w.alloc o).alloc p) := fun o p => ((Below.refl _ _).alloc (Nat.le_refl _) _).alloc (by simp) _
  have HB0 := Lib.hid hb0
  have HI := Lib.hid h
  have HFI := Lib.hid hi
  have HZ := Lib.hid hz
  clear h hi hb0 hz
  go_enter Try.func51, Try.ntmps51
  go_wp2_with fail
  obtain ⟨W, hW⟩ : ∃ W, W = (w.alloc (.cells #[.int .i64 r, .slice a n c] 29)).alloc (.cells #[.int .i64 0, .slice none 0 0] 29) := ⟨_, rfl⟩
  have hbW : Below w.heap.size w W := by rw [hW]; exact HB0.out _ _
  have k0 : W.cell? ⟨w.heap.size, 0, none⟩ = some (.int .i64 r) := by rw [hW]; simp
  have k1 : W.cell? ⟨w.heap.size, 1, none⟩ = some (.slice a n c) := by rw [hW]; simp
  have x0 : W.cell? ⟨w.heap.size + 1, 0, none⟩ = some (.int .i64 0) := by rw [hW]; simp
  have x1 : W.cell? ⟨w.heap.size + 1, 1, none⟩ = some (.slice none 0 0) := by rw [hW]; simp
  have y0 : W.frozen? ⟨w.heap.size + 1, 0, none⟩ = false := by rw [hW]; simp
  have y1 : W.frozen? ⟨w.heap.size + 1, 1, none⟩ = false := by rw [hW]; simp
  have hWs : W.heap.size = w.heap.size + 2 := by rw [hW]; simp
  rw [← hW]
  clear hW
  have HBW := Lib.hid hbW
  have HWS := Lib.hid hWs
  have hal : Below W.heap.size W (W.alloc (.cells #[] 3)) := (Below.refl W.heap.size W).alloc (by simp) _
  have kA0 := cellk hal k0
  have kA1 := cellk hal k1
  have HAL := Lib.hid hal
  have hlit : Built .i64 3 W (W.alloc (.cells #[] 3)) (.slice (some ⟨W.heap.size, 0, none⟩) 0 0) [] := by
    have := Built.lit .i64 3 W W [] (Nat.zero_le _) (Below.refl _ _)
    simpa using this
  have HLIT := Lib.hid hlit.drew
  have HIA := Lib.hid (HI.out.below (bnext hbW hal.drew))
  clear hlit
  clear hal hbW hWs
  go_region_law (first
    | (refine step_appInts (by rfl) (.tmp 5) (.tmp 7) 24 (by rfl) 3 Try.underlying24 info_i64 _ [] (by rfl) HLIT.out _ l (by rfl) HIA.out (by have := HZ.out; simp; omega) ?_; intro v' w3 hown; obtain ⟨va, vn, vc, rfl⟩ := (Ints.ofBuilt hown (by simpa using HI.out.1)).shape; have HOW := Lib.hid hown; have hbl := hown.below; have q0 := cellk hbl k0; have q1 := cellk hbl k1; have z0 := cellk hbl x0; have z1 := cellk hbl x1; have f0 := frok hbl x0 y0; have f1 := frok hbl x1 y1; have HBL := Lib.hid hbl; clear hown hbl))
  all_goals (go_wp2_with fail)
  all_goals
    obtain ⟨bs, ho, hnd, hfr⟩ := OInts.ofBuilt HOW.out (by simpa using HI.out.1)
    have hk : OnlyAt [w.heap.size + 1] w3 ((w3.setCell ⟨w.heap.size + 1, 0, none⟩ (.int .i64 r)).setCell ⟨w.heap.size + 1, 1, none⟩ (.slice va vn vc)) := (OnlyAt.setCell _ _ _ _).same (OnlyAt.setCell _ _ _ _)
    have hs : ((w3.setCell ⟨w.heap.size + 1, 0, none⟩ (.int .i64 r)).setCell ⟨w.heap.size + 1, 1, none⟩ (.slice va vn vc)).heap.size = w3.heap.size := by simp [World.setCell]
    have hWS := HWS.out
    exact bodyPost_ret (v := .agg #[.int .i64 r, .slice va vn vc]) (by simp [results, Try.results51, go_sem, z0, z1]) rfl ⟨_, bs, rfl, ⟨va, vn, vc, rfl, HFI.out, ho.onlyAt hk (fun b hb hm => by simp at hm; have := (hfr b hb).1; omega)⟩, ⟨hnd, fun b hb => ⟨by have := (hfr b hb).1; omega, by rw [hs]; exact (hfr b hb).2⟩⟩, OnlyAt.below (bnext HBW.out HBL.out) hk (fun x hx => by simp at hx; omega)⟩

theorem info_Fact : (Try.prog.info? 29).map (fun i => (i.zero, i.size, i.bytes)) = some (some (.agg #[.int .i64 0, .slice none 0 0]), 2, 32) := by kernel_rfl
theorem take_at {l : List AtomD} {i : Nat} {e : AtomD} (h : l[i]? = some e) : l.take (i + 1) = l.take i ++ [(e.1, e.2)] := by
  obtain ⟨hi, rfl⟩ := List.getElem?_eq_some_iff.1 h
  rw [List.take_succ_eq_append_getElem hi]

set_option maxRecDepth 100000 in
set_option maxHeartbeats 4000000 in
theorem sAll5_any (w : World) (v : Value) (l : List AtomD) (h : RdAtomS w v l) (hz : ∀ x ∈ l, x.2.length ≤ 1048576) (hz2 : l.length ≤ 1048576) :
    Calls Try.prog 41 #[v] w (GaveO (fun w' v' bs => ROAtomS w' v' l bs) w) := by
  obtain ⟨a, n, c, rfl, h⟩ := h
  obtain ⟨hl, hn, hm, hcell⟩ := h.at
  unfold maxLen at hm
  rw [hl] at hz2
  have HC := Lib.hid hcell
  have HL := Lib.hid hl
  have HZ := Lib.hid hz
  have hCp := Lib.hid (fun w v f h hz => sCopy5_any w v f h hz)
  clear h hcell hl hz
  have HLIT := Lib.hid (OutInv.lit 29 w w (Below.refl _ _))
  go_enter Try.func41, Try.ntmps41
  go_wp2_with fail
  go_loopw [3, 4] (fun ov iv wr => ∃ i : Nat, i ≤ n ∧ iv = .int .i64 i ∧ ∃ bss, Hid (OutInv 29 w wr ov (l.take i) bss)) (fun _ iv _ => n - (intOf iv).toNat)
  case atStart => exact ⟨0, by omega, rfl, [], by simpa using HLIT⟩
  case round =>
    obtain ⟨i, hi, rfl, bss, HP⟩ := hrel
    obtain ⟨ov, hov⟩ : ∃ ov, ov = u3 := ⟨_, rfl⟩
    subst hov
    have hbq := HP.out.below
    by_cases hlt : i < n
    · obtain ⟨b, off, rfl, hbw, hc⟩ := HC.out (by omega)
      obtain ⟨e, hd⟩ : ∃ e, l[i]? = some e := ⟨l[i]'(by rw [HL.out]; exact hlt), List.getElem?_eq_getElem (by rw [HL.out]; exact hlt)⟩
      obtain ⟨ea, em, ec, c0, c1, hdi, hints⟩ := atomAt (n := n) hc i e hd
      have k0 := cellk hbq c0
      have k1 := cellk hbq c1
      have HTK := Lib.hid (take_at hd)
      have hi0 : (0 : Int) ≤ i := by omega
      have hi1 : (i : Int) < n := by omega
      have hlen : (l.take i).length ≤ i := by simp; omega
      have hcall := Lib.hid (hCp.out wr (.agg #[.int .i64 e.1, .slice ea em ec]) e ⟨ea, em, ec, rfl, hdi, hints.below hbq⟩ (HZ.out e (List.mem_of_getElem? hd)))
      obtain ⟨cs, hc1, hc2⟩ := HP.out.parts
      have HC1 := Lib.hid hc1
      have HC2 := Lib.hid hc2
      generalize l.take i = L at *
      unfold ROAtom at hcall
      generalize e.1 = r at *
      generalize e.2 = li at *
      clear hc hbw hd c0 c1 hdi hints hbq hc1 hc2
      go_wp2_with fail
      refine hcall.out.mono ?_
      rintro e2 w2 ⟨v2, bs2, rfl, ⟨a2, n2, c2, rfl, hr2, ho2⟩, hf2, hb2⟩
      have HB2 := Lib.hid hb2
      have HO2 := Lib.hid ho2
      have HF2 := Lib.hid hf2
      have HR2 := Lib.hid hr2
      have HGR := Lib.hid (HC1.out.grow (bnext hb2 (below_alloc w2 (.cells #[.int .i64 r, .slice a2 n2 c2] 29))))
      have HAL := Lib.hid (below_alloc w2 (.cells #[.int .i64 r, .slice a2 n2 c2] 29))
      clear hb2 ho2 hf2 hr2 k0 k1
      go_wp2_with (at_builtin; refine wpList_app1D rfl (.tmp 18) (.tmp 20) 27 rfl 29 (.agg #[.int .i64 0, .slice none 0 0]) 2 32 Try.underlying27 info_Fact (by decide) (by decide) (by rfl) ov L.length cs rfl HGR.out [.int .i64 r, .slice a2 n2 c2] rfl (by simp [Value.oneCell']) (by simp; rfl) (by omega) ?_)
      intro v' w3 hown' ko hbl
      have HNEW := Lib.hid (OutInv.step HP.out HC1.out HC2.out HB2.out HAL.out HO2.out HF2.out HR2.out hown' ko (fun b hb => (hbl b hb).imp id (fun h => by simpa using h)))
      clear hown' ko hbl
      go_wp2_with fail
      exact ⟨⟨i + 1, by omega, by simp, _, by rw [HTK.out]; exact HNEW⟩, by simp [intOf]; omega⟩
    · obtain rfl : i = n := by omega
      have hT : Hid (l.take i = l) := List.take_of_length_le (by rw [HL.out]; exact Nat.le_refl _)
      clear hbq
      go_wp2_with fail
      go_ret
      have hp := HP.out
      rw [hT.out] at hp
      obtain ⟨bs, b1, b2⟩ := hp.done
      exact ⟨_, bs, rfl, b1, b2, hp.below⟩
end Go.Proofs.Ytcfohmcfbjidnaa
