/- Contract of chapter 9's spec: WithoutAtom. -/
import Derived.Test.YtgnlglfppeepeaaS9a
import Derived.Deep.RegionHeld3
namespace Go.Proofs.Ytgnlglfppeepeaa
open Go Go.Sort Go.RowKit
set_option linter.unusedVariables false
set_option linter.unusedSimpArgs false

theorem cutA_ne {l : List AtomD} {k i : Nat} {e : AtomD} (h : l[k]? = some e) (hk : k ≠ i) : cutA (l.take (k + 1)) i = cutA (l.take k) i ++ [(e.1, e.2)] := by
  obtain ⟨hl, rfl⟩ := List.getElem?_eq_some_iff.1 h
  have hlen : (l.take k).length = k := by simp; omega
  rw [List.take_succ_eq_append_getElem hl]
  unfold cutA
  generalize l.take k = A at *
  generalize l[k] = e
  by_cases h1 : i < k
  · rw [List.take_append_of_le_length (by omega), List.drop_append_of_le_length (by omega), List.append_assoc]
  · have h2 : k < i := by omega
    rw [List.take_of_length_le (l := A ++ [e]) (by simp; omega), List.drop_of_length_le (l := A ++ [e]) (by simp; omega), List.take_of_length_le (l := A) (by omega), List.drop_of_length_le (l := A) (by omega)]
    simp
theorem cutA_eq {l : List AtomD} {i : Nat} (h : i < l.length) : cutA (l.take (i + 1)) i = cutA (l.take i) i := by
  unfold cutA
  rw [List.take_take, List.take_take, List.drop_of_length_le (by simp; omega), List.drop_of_length_le (by simp; omega)]
  congr 2; omega
theorem cutA_len2 (l : List AtomD) (i : Nat) : (cutA l i).length ≤ l.length := (cutA_sub l i).length_le
/-- A call that answers a query that reads as d, and b. -/
def GaveQB (w : World) (d : QueryD) (b : Bool) (e : Ending) (w' : World) : Prop := ∃ a n c a' n' c', e = .returned (.tuple #[.agg #[.slice a n c, .slice a' n' c'], .bool b]) ∧ RdQuery w' (.agg #[.slice a n c, .slice a' n' c']) d ∧ Below w.heap.size w w'

set_option maxRecDepth 100000 in
set_option maxHeartbeats 16000000 in
theorem sWithout_any (w : World) (vs v : Value) (s : List Int) (d : QueryD) (i : Int) (hvs : RdSchema w vs s) (h : RdQuery w v d) (hs1 : d.1.length ≤ 1048576) (hs2 : sizeAtomS d.2 ≤ 1048576) :
    Calls Try.prog 44 #[vs, v, .int .i64 i] w (GaveQB w (woQ s d i) (woB s d i)) := by
  have HQ := Lib.hid (fun W (hb : Below w.heap.size w W) => sIsQuery_any W vs v s d (RdSchema.below hvs hb) (RdQuery.below h hb) hs2)
  have HCP := Lib.hid (fun W (hb : Below w.heap.size w W) => sCopy_any W v d (RdQuery.below h hb) hs1 hs2)
  have HQX := Lib.hid (fun W x (hb : Below w.heap.size w W) (hx : RdQuery W x (cut9 d i.toNat)) => sIsQuery_any W vs x s (cut9 d i.toNat) (RdSchema.below hvs hb) hx (Nat.le_trans (cut9_size d i.toNat) hs2))
  obtain ⟨B, hB⟩ : ∃ B, B = woB s d i := ⟨_, rfl⟩
  obtain ⟨Q, hQ⟩ : ∃ Q, Q = woQ s d i := ⟨_, rfl⟩
  rw [← hB, ← hQ]
  obtain ⟨sa, sn, sc, rfl, hs⟩ := hvs
  obtain ⟨a0, n0, c0, a, n, c, rfl, hi, ha⟩ := h
  obtain ⟨hl, hn, hm, hcell⟩ := ha.at
  unfold maxLen at hm
  have HC := Lib.hid hcell
  have HL := Lib.hid hl
  have HI := Lib.hid hi
  have HZ1 := Lib.hid hs1
  have HSA := Lib.hid hs2
  have hln : n ≤ 1048576 := by unfold sizeAtomS at hs2; omega
  have HWB0 : Hid (woB s d i = (fineB s d 4 && (inB i 0 ((n : Int) - 1) && fineB s (cut9 d i.toNat) 4))) := by unfold Hid woB; rw [hl]
  unfold woQ at hQ
  rw [← hB] at HWB0 hQ
  have HWQ0 := Lib.hid hQ
  clear hB hQ
  obtain ⟨p1, hp1⟩ : ∃ p, fineB s d 4 = p := ⟨_, rfl⟩
  obtain ⟨p2, hp2⟩ : ∃ p, inB i 0 ((n : Int) - 1) = p := ⟨_, rfl⟩
  obtain ⟨p3, hp3⟩ : ∃ p, fineB s (cut9 d i.toNat) 4 = p := ⟨_, rfl⟩
  rw [hp1, hp2, hp3] at HWB0
  rw [hp1] at HQ
  rw [hp3] at HQX
  have HWB : Hid (∀ b, (p1 && (p2 && p3)) = b → B = b) := fun b e => HWB0.out.trans e
  have HWQ : Hid ((p1 && (p2 && p3)) = false → Q = d) := fun e => by have h1 := HWQ0.out; have h2 := HWB0.out; rw [e] at h2; rw [h2] at h1; exact h1
  have HWQ2 : Hid ((p1 && (p2 && p3)) = true → Q = cut9 d i.toNat) := fun e => by have h1 := HWQ0.out; have h2 := HWB0.out; rw [e] at h2; rw [h2] at h1; exact h1
  have HP2 := Lib.hid hp2
  have hb0 : ∀ a b c, Below w.heap.size w (((w.alloc a).alloc b).alloc c) := fun a b c => (((Below.refl _ _).alloc (Nat.le_refl _) _).alloc (by simp) _).alloc (by simp; omega) _
  have HB0 := Lib.hid hb0
  clear HWB0 HWQ0 hp1 hp2 hp3 hs hi ha hcell hl hb0 hs1 hs2
  go_enter Try.func44, Try.ntmps44
  go_wp2_with fail
  obtain ⟨W, hW⟩ : ∃ W, W = ((w.alloc (.cells #[.slice sa sn sc] 30)).alloc (.cells #[.slice a0 n0 c0, .slice a n c] 44)).alloc (.cells #[.slice none 0 0, .slice none 0 0] 44) := ⟨_, rfl⟩
  have HBW : Hid (Below w.heap.size w W) := by rw [hW]; exact HB0.out _ _ _
  have q0 : W.cell? ⟨w.heap.size, 0, none⟩ = some (.slice sa sn sc) := by rw [hW]; exact box1 w _ _ _ _ 0 _ rfl
  have q1 : W.cell? ⟨w.heap.size + 1, 0, none⟩ = some (.slice a0 n0 c0) := by rw [hW]; exact box2 w _ _ _ _ 0 _ rfl
  have q2 : W.cell? ⟨w.heap.size + 1, 1, none⟩ = some (.slice a n c) := by rw [hW]; exact box2 w _ _ _ _ 1 _ rfl
  have k0 : W.cell? ⟨w.heap.size + 1 + 1, 0, none⟩ = some (.slice none 0 0) := by rw [hW]; exact box3 w _ _ _ _ 0 _ rfl
  have k1 : W.cell? ⟨w.heap.size + 1 + 1, 1, none⟩ = some (.slice none 0 0) := by rw [hW]; exact box3 w _ _ _ _ 1 _ rfl
  have f0 : W.frozen? ⟨w.heap.size + 1 + 1, 0, none⟩ = false := by rw [hW]; exact frz3 w _ _ _ _ 0
  have f1 : W.frozen? ⟨w.heap.size + 1 + 1, 1, none⟩ = false := by rw [hW]; exact frz3 w _ _ _ _ 1
  have hsl : SlB W (w.heap.size + 1 + 1) := by
    rw [hW]
    have := SlB.new ((w.alloc (.cells #[.slice sa sn sc] 30)).alloc (.cells #[.slice a0 n0 c0, .slice a n c] 44)) none none 0 0 0 0 44
    simpa using this
  have HSZ : Hid (W.heap.size = w.heap.size + 3) := by rw [hW]; exact Lib.hid (by simp)
  rw [← hW]
  clear hW
  refine (HQ.out _ HBW.out).mono ?_
  rintro e w1 ⟨rfl, hbb⟩
  have HSL1 := Lib.hid (hsl.below (by have := HSZ.out; omega) hbb)
  replace f0 := frok hbb k0 f0
  replace f1 := frok hbb k1 f1
  replace q0 := cellk hbb q0
  replace q1 := cellk hbb q1
  replace q2 := cellk hbb q2
  replace k0 := cellk hbb k0
  replace k1 := cellk hbb k1
  have HB1 := Lib.hid (bnext HBW.out hbb)
  have HS1 : Hid (w.heap.size + 3 ≤ w1.heap.size) := by have := hbb.size; have := HSZ.out; exact Lib.hid (by omega)
  clear hbb hsl HSZ HBW
  have HSZ := HS1
  cases p1 with
  | false =>
    have HWBf : Hid (B = false) := HWB.out _ rfl
    have HWQf : Hid (Q = d) := HWQ.out rfl
    clear HWB HWQ HWQ2
    go_wp2_with fail
    refine (HCP.out _ HB1.out).mono ?_
    rintro e wc ⟨ra, rn, rc, ra', rn', rc', rfl, hr, hbc⟩
    replace f0 := frok hbc k0 f0
    replace f1 := frok hbc k1 f1
    replace k0 := cellk hbc k0
    replace k1 := cellk hbc k1
    have HSLc := Lib.hid (HSL1.out.below (by have := (Below.size HB1.out); have := HSZ.out; omega) hbc)
    have HBc := Lib.hid (bnext HB1.out hbc)
    have HRc := Lib.hid hr
    clear hbc hr
    go_wp2_with fail
    have hk : OnlyAt [w.heap.size + 1 + 1] wc ((wc.setCell ⟨w.heap.size + 1 + 1, 0, none⟩ (.slice ra rn rc)).setCell ⟨w.heap.size + 1 + 1, 1, none⟩ (.slice ra' rn' rc')) := (OnlyAt.setCell wc _ _ _).same (OnlyAt.setCell _ _ _ _)
    exact bodyPost_ret (v := .tuple #[.agg #[.slice ra rn rc, .slice ra' rn' rc'], .bool false]) (by simp [results, Try.results44, go_sem, k0, k1]) rfl ⟨_, _, _, _, _, _, by rw [HWBf.out], by rw [HWQf.out]; exact HRc.out.offS hk HSLc.out, OnlyAt.below HBc.out hk (fun x hx => by simp at hx; omega)⟩
  | true =>
    have HIN := Lib.hid (fun w => l1In_any i 0 ((n : Int) - 1) w)
    rw [HP2.out] at HIN
    cases p2 with
    | false =>
      have HWBf : Hid (B = false) := HWB.out _ rfl
      have HWQf : Hid (Q = d) := HWQ.out rfl
      clear HWB HWQ HWQ2
      go_wp2_with (go_at_call 58; refine (HIN.out _).mono ?_; rintro e w' ⟨rfl, rfl⟩)
      go_wp2_with fail
      refine (HCP.out _ HB1.out).mono ?_
      rintro e wc ⟨ra, rn, rc, ra', rn', rc', rfl, hr, hbc⟩
      replace f0 := frok hbc k0 f0
      replace f1 := frok hbc k1 f1
      replace k0 := cellk hbc k0
      replace k1 := cellk hbc k1
      have HSLc := Lib.hid (HSL1.out.below (by have := (Below.size HB1.out); have := HSZ.out; omega) hbc)
      have HBc := Lib.hid (bnext HB1.out hbc)
      have HRc := Lib.hid hr
      clear hbc hr
      go_wp2_with fail
      have hk : OnlyAt [w.heap.size + 1 + 1] wc ((wc.setCell ⟨w.heap.size + 1 + 1, 0, none⟩ (.slice ra rn rc)).setCell ⟨w.heap.size + 1 + 1, 1, none⟩ (.slice ra' rn' rc')) := (OnlyAt.setCell wc _ _ _).same (OnlyAt.setCell _ _ _ _)
      exact bodyPost_ret (v := .tuple #[.agg #[.slice ra rn rc, .slice ra' rn' rc'], .bool false]) (by simp [results, Try.results44, go_sem, k0, k1]) rfl ⟨_, _, _, _, _, _, by rw [HWBf.out], by rw [HWQf.out]; exact HRc.out.offS hk HSLc.out, OnlyAt.below HBc.out hk (fun x hx => by simp at hx; omega)⟩
    | true =>
      obtain ⟨hin1, hin2⟩ : 0 ≤ i ∧ i ≤ (n : Int) - 1 := by have := HP2.out; simpa [inB] using this
      have hal := below_alloc w1 (.cells #[] 3)
      have hlit := Built.lit .i64 3 w1 w1 [] (Nat.zero_le _) (Below.refl _ _)
      have HLIT : Hid (Built .i64 3 w1 (w1.alloc (.cells #[] 3)) (.slice (some ⟨w1.heap.size, 0, none⟩) 0 0) []) := Lib.hid (by simpa using hlit)
      have HHA := Lib.hid (HI.out.below (bnext HB1.out hal))
      have z1 := cellk hal q1
      clear hlit hal
      go_wp2_with (first | (go_at_call 58; refine (HIN.out _).mono ?_; rintro e w' ⟨rfl, rfl⟩) | (at_builtin; refine wpList_appInts rfl (.tmp 25) (.tmp 27) 22 rfl 3 Try.underlying22 info_i64 _ [] rfl HLIT.out _ d.1 rfl HHA.out (by have := HZ1.out; simp; omega) ?_))
      clear z1
      intro vh w2 hown
      have hbl := hown.below
      obtain ⟨va, vn, vc, rfl⟩ := (Ints.ofBuilt hown (by simpa using HI.out.1)).shape
      obtain ⟨bh, hoh, hnd, hfr⟩ := OInts.ofBuilt hown (by simpa using HI.out.1)
      have HOH : Hid (OInts w2 (.slice va vn vc) d.1 bh) := Lib.hid (by simpa using hoh)
      have HFH : Hid (∀ b ∈ bh, b ≠ w.heap.size) := fun b hb e => by have := (hfr b hb).1; have := HSZ.out; omega
      have HSL2 := Lib.hid (HSL1.out.below (by have := HSZ.out; omega) hbl)
      replace f0 := frok hbl k0 f0
      replace f1 := frok hbl k1 f1
      replace q0 := cellk hbl q0
      replace q1 := cellk hbl q1
      replace q2 := cellk hbl q2
      replace k0 := cellk hbl k0
      replace k1 := cellk hbl k1
      have HB2 := Lib.hid (bnext HB1.out hbl)
      have HSZ2 : Hid (w.heap.size + 3 ≤ w2.heap.size) := by have := hbl.size; have := HSZ.out; exact Lib.hid (by omega)
      clear hown hbl hoh hnd hfr HLIT HHA HSL1 HSZ
      have HSZ := HSZ2
      go_wp2_with fail
      obtain ⟨W3, hW⟩ : ∃ W3, W3 = w2.alloc (.cells #[.slice va vn vc, .slice none 0 0] 44) := ⟨_, rfl⟩
      have HBA : Hid (Below w2.heap.size w2 W3) := by rw [hW]; exact Lib.hid (below_alloc _ _)
      have HQ0 : Hid (QInv 32 w2 W3 (.slice va vn vc) [] (.slice none 0 0) []) := by
        refine ⟨BuiltA.nil _ _ _ HBA.out, by rw [hW]; simp, by rw [hW]; simp, by rw [hW]; simp, fun b hb => by simp [blk] at hb, fun b hb => by simp at hb, by rw [hW]; simp⟩
      rw [← hW]
      have KQ0 := Lib.hid q0
      have KQ1 := Lib.hid q1
      have KQ2 := Lib.hid q2
      have KK0 := Lib.hid k0
      have KK1 := Lib.hid k1
      have KF0 := Lib.hid f0
      have KF1 := Lib.hid f1
      clear hW HBA q0 q1 q2 k0 k1 f0 f1
      go_loopw [9] (fun iv wr => ∃ k : Nat, k ≤ n ∧ iv = .int .i64 k ∧ ∃ xv bss, QInv 32 w2 wr (.slice va vn vc) (cutA (d.2.take k) i.toNat) xv bss) (fun iv _ => n - (intOf iv).toNat)
      case atStart => exact ⟨0, by omega, rfl, _, _, by simpa [cutA] using HQ0.out⟩
      case round =>
        obtain ⟨k, hk, rfl, xv, bss, hq⟩ := hrel
        have HQI := Lib.hid hq
        obtain ⟨hba, kx1, kx0, kxf, hx6, _, hxs⟩ := hq
        have HXB : Hid (w2.heap.size ∉ blk xv) := fun hx => (hx6 _ hx).1 rfl
        have HXS := Lib.hid hxs
        clear hx6
        have hbq := hba.below
        have q0 := cellk hbq KQ0.out
        have q2 := cellk hbq KQ2.out
        obtain ⟨xa, xn, xc, rfl⟩ := HQI.out.slice
        by_cases hlt : k < n
        · by_cases hki : (k : Int) = i
          · have HNX : Hid (cutA (d.2.take (k + 1)) i.toNat = cutA (d.2.take k) i.toNat) := by
              have : i.toNat = k := by omega
              rw [this]; exact Lib.hid (cutA_eq (by rw [HL.out]; exact hlt))
            subst hki
            clear hba hxs hbq
            go_wp2_with fail
            exact ⟨⟨k + 1, by omega, by simp, _, _, by rw [HNX.out]; exact HQI.out⟩, by simp [intOf]; omega⟩
          · obtain ⟨b, off, rfl, hbw, hc⟩ := HC.out (by omega)
            obtain ⟨e, hd⟩ : ∃ e, d.2[k]? = some e := ⟨d.2[k]'(by rw [HL.out]; exact hlt), List.getElem?_eq_getElem (by rw [HL.out]; exact hlt)⟩
            obtain ⟨ea, em, ec, c0, c1, hdi, hints⟩ := atomAt (n := n) hc k e hd
            have hww := bnext HB2.out hbq
            have j0 := cellk hww c0
            have j1 := cellk hww c1
            have HRT := Lib.hid (cutA_ne hd (show k ≠ i.toNat by omega))
            have hi0 : (0 : Int) ≤ k := by omega
            have hi1 : (k : Int) < n := by omega
            have hbx : ∀ x ∈ blk (.slice xa xn xc), w2.heap.size ≤ x := by
              obtain ⟨cs, hc1, _⟩ := hba
              rcases hc1.form with ⟨e, _⟩ | ⟨g, cap, e, _, _⟩
              · rw [e]; intro x hx; simp [blk] at hx
              · rw [e] at hc1 ⊢; intro x hx; simp [blk] at hx; subst hx; exact hc1.lt.1
            have hnb : w.heap.size + 1 < w2.heap.size := by have := HSZ.out; omega
            have hnb2 : b < w2.heap.size := by have := HSZ.out; omega
            have HN0 : Hid (w.heap.size + 1 ∉ blk (.slice xa xn xc)) := fun hx => by have := hbx _ hx; omega
            have HN1 : Hid (b ∉ blk (.slice xa xn xc)) := fun hx => by have := hbx _ hx; omega
            clear hbx
            have hlen2 : (cutA (d.2.take k) i.toNat).length ≤ k := by have := cutA_len2 (d.2.take k) i.toNat; simp at this; omega
            have hez : e.2.length ≤ 1048576 := by
              have h8 := hints.len_le
              have h5 := sumArgs_take hd
              have h6 := sumArgs_le d.2 (k + 1)
              have h7 := HSA.out
              unfold sizeAtomS at h7
              omega
            have HDI := Lib.hid hdi
            have hal := below_alloc wr (.cells #[] 3)
            have hlit := Built.lit .i64 3 wr wr [] (Nat.zero_le _) (Below.refl _ _)
            have hlit2 : Built .i64 3 wr (wr.alloc (.cells #[] 3)) (.slice (some ⟨wr.heap.size, 0, none⟩) 0 0) [] := by simpa using hlit
            have HLIT := Lib.hid hlit2.drew
            have HIA := Lib.hid (hints.below (bnext hww hal.drew))
            have HEI := Lib.hid hints.1
            have a0 := cellk hal q2
            have a1 := cellk hal kx1
            have a2 := cellk hal j0
            have a3 := cellk hal j1
            obtain ⟨cs, hc1, hc2⟩ := hba
            have HC1 := Lib.hid hc1
            have HC2 := Lib.hid hc2
            have HEZ := Lib.hid hez
            generalize hLL : cutA (d.2.take k) i.toNat = L at *
            generalize e.1 = r at *
            generalize e.2 = l at *
            clear hc hbw hd c0 c1 hdi hints hww hez hc1 hc2 hbq hlit hlit2 hal
            go_wp2_with fail
            refine wp_region_noPanic ?_
            refine wp_region_held_drew (S := (fun w' => w'.cell? ⟨w.heap.size + 1, 1, none⟩ = some (.slice (some ⟨b, off, none⟩) n c) ∧ w'.cell? ⟨b, off + k * 2, none⟩ = some (.int .i64 r) ∧ w'.cell? ⟨b, off + k * 2 + 1, none⟩ = some (.slice ea em ec))) (by kernel_rfl) ?_ (fun hHeld => ?_)
            · (try dsimp only)
              (first | exact ⟨by simpa using q2, by simpa using j0, by simpa using j1⟩ | exact ⟨by simpa using a0, by simpa using a2, by simpa using a3⟩ | exact ⟨y0, y1, y3⟩ | exact ⟨cellk (below_alloc _ _) y0, cellk (below_alloc _ _) y1, cellk (below_alloc _ _) y3⟩ | exact ⟨x0, x1, x3⟩ | exact ⟨(World.cell?_setCell_other _ _ _ _ (by intro e; have := congrArg Addr.block e; simp at this; omega)).trans x0, (World.cell?_setCell_other _ _ _ _ (by intro e; have := congrArg Addr.block e; simp at this; omega)).trans x1, (World.cell?_setCell_other _ _ _ _ (by intro e; have := congrArg Addr.block e; simp at this; omega)).trans x3⟩)
            refine wpAnyH_take (i := 0) (oi := _) (v := ?_) rfl (by kernel_rfl) (by kernel_rfl) (by kernel_rfl) (fun _ _ _ h => h) (Or.inl ⟨by rfl, ?_⟩) (by assumption) ?_
            rotate_left
            · (intro w hSw; (try dsimp only at hSw); go_simp <;> with_reducible rfl)
            (try simp only [Act.put, List.setIfInBounds_toArray, List.set_cons_zero, List.set_cons_succ])
            refine wpAnyH_take (i := 2) (oi := _) (v := ?_) rfl (by kernel_rfl) (by kernel_rfl) (by kernel_rfl) (fun _ _ _ h => h) (Or.inl ⟨by rfl, ?_⟩) (by assumption) ?_
            rotate_left
            · (intro w hSw; (try dsimp only at hSw); go_simp <;> with_reducible rfl)
            (try simp only [Act.put, List.setIfInBounds_toArray, List.set_cons_zero, List.set_cons_succ])
            refine wpAnyH_take (i := 3) (oi := _) (v := ?_) rfl (by kernel_rfl) (by kernel_rfl) (by kernel_rfl) (fun _ _ _ h => h) (Or.inl ⟨by rfl, ?_⟩) (by assumption) ?_
            rotate_left
            · (intro w hSw; (try dsimp only at hSw); go_simp <;> with_reducible rfl)
            (try simp only [Act.put, List.setIfInBounds_toArray, List.set_cons_zero, List.set_cons_succ])
            refine wpAnyH_take (i := 4) (oi := _) (v := ?_) rfl (by kernel_rfl) (by kernel_rfl) (by kernel_rfl) (fun _ _ _ h => h) (Or.inl ⟨by rfl, ?_⟩) (by assumption) ?_
            rotate_left
            · (intro w hSw; (try dsimp only at hSw); go_simp <;> with_reducible rfl)
            (try simp only [Act.put, List.setIfInBounds_toArray, List.set_cons_zero, List.set_cons_succ])
            refine wpAnyH_take (i := 5) (oi := _) (v := ?_) rfl (by kernel_rfl) (by kernel_rfl) (by kernel_rfl) (fun _ _ _ h => h) (Or.inl ⟨by rfl, ?_⟩) (by assumption) ?_
            rotate_left
            · (intro w hSw; (try dsimp only at hSw); go_simp <;> with_reducible rfl)
            (try simp only [Act.put, List.setIfInBounds_toArray, List.set_cons_zero, List.set_cons_succ])
            refine wpAnyH_take (i := 6) (oi := _) (v := ?_) rfl (by kernel_rfl) (by kernel_rfl) (by kernel_rfl) (fun _ _ _ h => h) (Or.inl ⟨by rfl, ?_⟩) (by assumption) ?_
            rotate_left
            · (intro w hSw; (try dsimp only at hSw); go_simp <;> with_reducible rfl)
            (try simp only [Act.put, List.setIfInBounds_toArray, List.set_cons_zero, List.set_cons_succ])
            refine wpAnyH_take (i := 7) (oi := _) (v := ?_) rfl (by kernel_rfl) (by kernel_rfl) (by kernel_rfl) (fun _ _ _ h => h) (Or.inl ⟨by rfl, ?_⟩) (by assumption) ?_
            rotate_left
            · (intro w hSw; (try dsimp only at hSw); go_simp <;> with_reducible rfl)
            (try simp only [Act.put, List.setIfInBounds_toArray, List.set_cons_zero, List.set_cons_succ])
            refine wpAnyH_take (i := 9) (oi := _) (v := ?_) rfl (by kernel_rfl) (by kernel_rfl) (by kernel_rfl) (fun _ _ _ h => h) (Or.inl ⟨by rfl, ?_⟩) (by assumption) ?_
            rotate_left
            · (intro w hSw; (try dsimp only at hSw); go_simp <;> with_reducible rfl)
            (try simp only [Act.put, List.setIfInBounds_toArray, List.set_cons_zero, List.set_cons_succ])
            refine wpAnyH_take (i := 10) (oi := _) (v := ?_) rfl (by kernel_rfl) (by kernel_rfl) (by kernel_rfl) (fun _ _ _ h => h) (Or.inl ⟨by rfl, ?_⟩) (by assumption) ?_
            rotate_left
            · (intro w hSw; (try dsimp only at hSw); go_simp <;> with_reducible rfl)
            (try simp only [Act.put, List.setIfInBounds_toArray, List.set_cons_zero, List.set_cons_succ])
            refine wpAnyH_take (i := 11) (oi := _) (v := ?_) rfl (by kernel_rfl) (by kernel_rfl) (by kernel_rfl) (fun _ _ _ h => h) (Or.inl ⟨by rfl, ?_⟩) (by assumption) ?_
            rotate_left
            · (intro w hSw; (try dsimp only at hSw); go_simp <;> with_reducible rfl)
            (try simp only [Act.put, List.setIfInBounds_toArray, List.set_cons_zero, List.set_cons_succ])
            refine wpAnyH_take (i := 12) (oi := _) (v := ?_) rfl (by kernel_rfl) (by kernel_rfl) (by kernel_rfl) (fun _ _ _ h => h) (Or.inl ⟨by rfl, ?_⟩) (by assumption) ?_
            rotate_left
            · (intro w hSw; (try dsimp only at hSw); go_simp <;> with_reducible rfl)
            (try simp only [Act.put, List.setIfInBounds_toArray, List.set_cons_zero, List.set_cons_succ])
            refine wpAnyH_take (i := 13) (oi := _) (v := ?_) rfl (by kernel_rfl) (by kernel_rfl) (by kernel_rfl) (fun _ _ _ h => h) (Or.inl ⟨by rfl, ?_⟩) (by assumption) ?_
            rotate_left
            · (intro w hSw; (try dsimp only at hSw); go_simp <;> with_reducible rfl)
            (try simp only [Act.put, List.setIfInBounds_toArray, List.set_cons_zero, List.set_cons_succ])
            refine wpAnyH_take (i := 14) (oi := _) (v := ?_) rfl (by kernel_rfl) (by kernel_rfl) (by kernel_rfl) (fun _ _ _ h => h) (Or.inl ⟨by rfl, ?_⟩) (by assumption) ?_
            rotate_left
            · (intro w hSw; (try dsimp only at hSw); go_simp <;> with_reducible rfl)
            (try simp only [Act.put, List.setIfInBounds_toArray, List.set_cons_zero, List.set_cons_succ])
            refine wpAnyH_ready (rs := [1, 8]) (by kernel_rfl) (by simp) ?_
            refine AllReadyH.cons (o := _) rfl (fun K hK => ?_) ?_
            · go_simp
              refine hK.out _ _ ?_ (fun hHeld => ?_)
              · (try dsimp only)
                (first | exact ⟨by simpa using q2, by simpa using j0, by simpa using j1⟩ | exact ⟨by simpa using a0, by simpa using a2, by simpa using a3⟩ | exact ⟨y0, y1, y3⟩ | exact ⟨cellk (below_alloc _ _) y0, cellk (below_alloc _ _) y1, cellk (below_alloc _ _) y3⟩ | exact ⟨x0, x1, x3⟩ | exact ⟨(World.cell?_setCell_other _ _ _ _ (by intro e; have := congrArg Addr.block e; simp at this; omega)).trans x0, (World.cell?_setCell_other _ _ _ _ (by intro e; have := congrArg Addr.block e; simp at this; omega)).trans x1, (World.cell?_setCell_other _ _ _ _ (by intro e; have := congrArg Addr.block e; simp at this; omega)).trans x3⟩)
              clear hK K
              (try simp only [Act.put, List.setIfInBounds_toArray, List.set_cons_zero, List.set_cons_succ])
              refine wpAnyH_ready (rs := [8]) (by kernel_rfl) (by simp) ?_
              refine AllReadyH.cons (o := _) rfl (fun K hK => ?_) ?_
              · go_simp
                refine hK.out _ _ ?_ (fun hHeld => ?_)
                · (try dsimp only)
                  (first | exact ⟨by simpa using q2, by simpa using j0, by simpa using j1⟩ | exact ⟨by simpa using a0, by simpa using a2, by simpa using a3⟩ | exact ⟨y0, y1, y3⟩ | exact ⟨cellk (below_alloc _ _) y0, cellk (below_alloc _ _) y1, cellk (below_alloc _ _) y3⟩ | exact ⟨x0, x1, x3⟩ | exact ⟨(World.cell?_setCell_other _ _ _ _ (by intro e; have := congrArg Addr.block e; simp at this; omega)).trans x0, (World.cell?_setCell_other _ _ _ _ (by intro e; have := congrArg Addr.block e; simp at this; omega)).trans x1, (World.cell?_setCell_other _ _ _ _ (by intro e; have := congrArg Addr.block e; simp at this; omega)).trans x3⟩)
                clear hK K
                (try simp only [Act.put, List.setIfInBounds_toArray, List.set_cons_zero, List.set_cons_succ])
                refine wpAnyH_ready (rs := [15]) (by kernel_rfl) (by simp) ?_
                refine AllReadyH.cons (o := _) rfl (fun K hK => ?_) ?_
                · (refine step_appInts (by rfl) (.tmp 48) (.tmp 54) 22 (by rfl) 3 Try.underlying22 info_i64 _ [] (by rfl) HLIT.out _ l (by rfl) HIA.out (by have := HEZ.out; simp; omega) ?_; intro v' w3 hown; obtain ⟨ba, bn, bc, rfl⟩ := (Ints.ofBuilt hown (by simpa using HEI.out)).shape; obtain ⟨bsb, hob, hnd, hfb⟩ := OInts.ofBuilt hown (by simpa using HEI.out); have HOB : Hid (OInts w3 (.slice ba bn bc) l bsb) := Lib.hid (by simpa using hob); have HFB := Lib.hid hfb; have HB3 := Lib.hid hown.below; have y0 := cellk HB3.out q2; have y1 := cellk HB3.out j0; have y3 := cellk HB3.out j1; have y4 := cellk HB3.out kx1; have y7 := cellk (below_alloc w3 (.cells #[.int .i64 r, .slice ba bn bc] 32)) y4; have HC1c := Lib.hid (HC1.out.grow HB3.out); clear hown hob hnd hfb)
                  refine hK.out _ _ ?_ (fun hHeld => ?_)
                  · (try dsimp only)
                    (first | exact ⟨by simpa using q2, by simpa using j0, by simpa using j1⟩ | exact ⟨by simpa using a0, by simpa using a2, by simpa using a3⟩ | exact ⟨y0, y1, y3⟩ | exact ⟨cellk (below_alloc _ _) y0, cellk (below_alloc _ _) y1, cellk (below_alloc _ _) y3⟩ | exact ⟨x0, x1, x3⟩ | exact ⟨(World.cell?_setCell_other _ _ _ _ (by intro e; have := congrArg Addr.block e; simp at this; omega)).trans x0, (World.cell?_setCell_other _ _ _ _ (by intro e; have := congrArg Addr.block e; simp at this; omega)).trans x1, (World.cell?_setCell_other _ _ _ _ (by intro e; have := congrArg Addr.block e; simp at this; omega)).trans x3⟩)
                  clear hK K
                  (try simp only [Act.put, List.setIfInBounds_toArray, List.set_cons_zero, List.set_cons_succ])
                  refine wpAnyH_take (i := 16) (oi := _) (v := ?_) rfl (by kernel_rfl) (by kernel_rfl) (by kernel_rfl) (fun _ _ _ h => h) (Or.inl ⟨by rfl, ?_⟩) (by assumption) ?_
                  rotate_left
                  · (intro w hSw; (try dsimp only at hSw); go_simp <;> with_reducible rfl)
                  (try simp only [Act.put, List.setIfInBounds_toArray, List.set_cons_zero, List.set_cons_succ])
                  refine wpAnyH_ready (rs := [17]) (by kernel_rfl) (by simp) ?_
                  refine AllReadyH.cons (o := _) rfl (fun K hK => ?_) ?_
                  · go_simp
                    refine hK.out _ _ ?_ (fun hHeld => ?_)
                    · (try dsimp only)
                      (first | exact ⟨by simpa using q2, by simpa using j0, by simpa using j1⟩ | exact ⟨by simpa using a0, by simpa using a2, by simpa using a3⟩ | exact ⟨y0, y1, y3⟩ | exact ⟨cellk (below_alloc _ _) y0, cellk (below_alloc _ _) y1, cellk (below_alloc _ _) y3⟩ | exact ⟨x0, x1, x3⟩ | exact ⟨(World.cell?_setCell_other _ _ _ _ (by intro e; have := congrArg Addr.block e; simp at this; omega)).trans x0, (World.cell?_setCell_other _ _ _ _ (by intro e; have := congrArg Addr.block e; simp at this; omega)).trans x1, (World.cell?_setCell_other _ _ _ _ (by intro e; have := congrArg Addr.block e; simp at this; omega)).trans x3⟩)
                    clear hK K
                    (try simp only [Act.put, List.setIfInBounds_toArray, List.set_cons_zero, List.set_cons_succ])
                    refine wpAnyH_ready (rs := [18]) (by kernel_rfl) (by simp) ?_
                    refine AllReadyH.cons (o := _) rfl (fun K hK => ?_) ?_
                    · (refine step_app1D (by rfl) (.tmp 41) (.tmp 57) 42 (by rfl) 32 (.agg #[.int .i64 0, .slice none 0 0]) 2 32 Try.underlying42 info_Atom (by decide) (by decide) (by rfl) (.slice xa xn xc) L.length cs (by rfl) (HC1c.out.grow (below_alloc _ _)) w3.heap.size [.int .i64 r, .slice ba bn bc] (by rfl) (by simp [Value.oneCell']) (by rfl) (heap_alloc_new w3 _) (by omega) ?_; intro g' cap' w4 hown' ko hbl; have z1 := ko.cell HXB.out (cellk (below_alloc w3 _) y4); have z2 := ko.frozen (o := 1) (Nat.lt_of_lt_of_le HXS.out (Nat.le_trans HB3.out.size (below_alloc w3 _).size)) HXB.out (frok (below_alloc w3 _) y4 (frok HB3.out kx1 kxf)); have x0 := ko.cell HN0.out (cellk (below_alloc w3 _) y0); have x1 := ko.cell HN1.out (cellk (below_alloc w3 _) y1); have x3 := ko.cell HN1.out (cellk (below_alloc w3 _) y3); have HNEW := Lib.hid (QInv.step HQI.out HC1.out HC2.out HB3.out (below_alloc w3 _) HOB.out HFB.out HDI.out hown' ko (fun b hb => (hbl b hb).imp id (fun e => by rw [e]; exact Nat.le_refl _))))
                      refine hK.out _ _ ?_ (fun hHeld => ?_)
                      · (try dsimp only)
                        (first | exact ⟨by simpa using q2, by simpa using j0, by simpa using j1⟩ | exact ⟨by simpa using a0, by simpa using a2, by simpa using a3⟩ | exact ⟨y0, y1, y3⟩ | exact ⟨cellk (below_alloc _ _) y0, cellk (below_alloc _ _) y1, cellk (below_alloc _ _) y3⟩ | exact ⟨x0, x1, x3⟩ | exact ⟨(World.cell?_setCell_other _ _ _ _ (by intro e; have := congrArg Addr.block e; simp at this; omega)).trans x0, (World.cell?_setCell_other _ _ _ _ (by intro e; have := congrArg Addr.block e; simp at this; omega)).trans x1, (World.cell?_setCell_other _ _ _ _ (by intro e; have := congrArg Addr.block e; simp at this; omega)).trans x3⟩)
                      clear hK K
                      (try simp only [Act.put, List.setIfInBounds_toArray, List.set_cons_zero, List.set_cons_succ])
                      refine wpAnyH_take (i := 19) (oi := _) (v := ?_) rfl (by kernel_rfl) (by kernel_rfl) (by kernel_rfl) (fun _ _ _ h => h) (Or.inl ⟨by rfl, ?_⟩) (by assumption) ?_
                      rotate_left
                      · (intro w hSw; (try dsimp only at hSw); go_simp <;> with_reducible rfl)
                      (try simp only [Act.put, List.setIfInBounds_toArray, List.set_cons_zero, List.set_cons_succ])
                      refine wpAnyH_ready (rs := [20]) (by kernel_rfl) (by simp) ?_
                      refine AllReadyH.cons (o := _) rfl (fun K hK => ?_) ?_
                      · go_simp
                        refine hK.out _ _ ?_ (fun hHeld => ?_)
                        · (try dsimp only)
                          (first | exact ⟨by simpa using q2, by simpa using j0, by simpa using j1⟩ | exact ⟨by simpa using a0, by simpa using a2, by simpa using a3⟩ | exact ⟨y0, y1, y3⟩ | exact ⟨cellk (below_alloc _ _) y0, cellk (below_alloc _ _) y1, cellk (below_alloc _ _) y3⟩ | exact ⟨x0, x1, x3⟩ | exact ⟨(World.cell?_setCell_other _ _ _ _ (by intro e; have := congrArg Addr.block e; simp at this; omega)).trans x0, (World.cell?_setCell_other _ _ _ _ (by intro e; have := congrArg Addr.block e; simp at this; omega)).trans x1, (World.cell?_setCell_other _ _ _ _ (by intro e; have := congrArg Addr.block e; simp at this; omega)).trans x3⟩)
                        clear hK K
                        (try simp only [Act.put, List.setIfInBounds_toArray, List.set_cons_zero, List.set_cons_succ])
                        refine wpAnyH_done (by kernel_rfl) ?_ _
                        refine NoPanic.normal ?_
                        go_wp2_with fail
                        exact ⟨⟨k + 1, by omega, by simp, _, _, by rw [HRT.out]; exact HNEW.out⟩, by simp [intOf]; omega⟩
                      exact AllReadyH.nil
                    exact AllReadyH.nil
                  exact AllReadyH.nil
                exact AllReadyH.nil
              exact AllReadyH.nil
            refine AllReadyH.cons (o := _) rfl (fun K hK => ?_) ?_
            · go_simp
              refine hK.out _ _ ?_ (fun hHeld => ?_)
              · (try dsimp only)
                (first | exact ⟨by simpa using q2, by simpa using j0, by simpa using j1⟩ | exact ⟨by simpa using a0, by simpa using a2, by simpa using a3⟩ | exact ⟨y0, y1, y3⟩ | exact ⟨cellk (below_alloc _ _) y0, cellk (below_alloc _ _) y1, cellk (below_alloc _ _) y3⟩ | exact ⟨x0, x1, x3⟩ | exact ⟨(World.cell?_setCell_other _ _ _ _ (by intro e; have := congrArg Addr.block e; simp at this; omega)).trans x0, (World.cell?_setCell_other _ _ _ _ (by intro e; have := congrArg Addr.block e; simp at this; omega)).trans x1, (World.cell?_setCell_other _ _ _ _ (by intro e; have := congrArg Addr.block e; simp at this; omega)).trans x3⟩)
              clear hK K
              (try simp only [Act.put, List.setIfInBounds_toArray, List.set_cons_zero, List.set_cons_succ])
              refine wpAnyH_ready (rs := [1, 15]) (by kernel_rfl) (by simp) ?_
              refine AllReadyH.cons (o := _) rfl (fun K hK => ?_) ?_
              · go_simp
                refine hK.out _ _ ?_ (fun hHeld => ?_)
                · (try dsimp only)
                  (first | exact ⟨by simpa using q2, by simpa using j0, by simpa using j1⟩ | exact ⟨by simpa using a0, by simpa using a2, by simpa using a3⟩ | exact ⟨y0, y1, y3⟩ | exact ⟨cellk (below_alloc _ _) y0, cellk (below_alloc _ _) y1, cellk (below_alloc _ _) y3⟩ | exact ⟨x0, x1, x3⟩ | exact ⟨(World.cell?_setCell_other _ _ _ _ (by intro e; have := congrArg Addr.block e; simp at this; omega)).trans x0, (World.cell?_setCell_other _ _ _ _ (by intro e; have := congrArg Addr.block e; simp at this; omega)).trans x1, (World.cell?_setCell_other _ _ _ _ (by intro e; have := congrArg Addr.block e; simp at this; omega)).trans x3⟩)
                clear hK K
                (try simp only [Act.put, List.setIfInBounds_toArray, List.set_cons_zero, List.set_cons_succ])
                refine wpAnyH_ready (rs := [15]) (by kernel_rfl) (by simp) ?_
                refine AllReadyH.cons (o := _) rfl (fun K hK => ?_) ?_
                · (refine step_appInts (by rfl) (.tmp 48) (.tmp 54) 22 (by rfl) 3 Try.underlying22 info_i64 _ [] (by rfl) HLIT.out _ l (by rfl) HIA.out (by have := HEZ.out; simp; omega) ?_; intro v' w3 hown; obtain ⟨ba, bn, bc, rfl⟩ := (Ints.ofBuilt hown (by simpa using HEI.out)).shape; obtain ⟨bsb, hob, hnd, hfb⟩ := OInts.ofBuilt hown (by simpa using HEI.out); have HOB : Hid (OInts w3 (.slice ba bn bc) l bsb) := Lib.hid (by simpa using hob); have HFB := Lib.hid hfb; have HB3 := Lib.hid hown.below; have y0 := cellk HB3.out q2; have y1 := cellk HB3.out j0; have y3 := cellk HB3.out j1; have y4 := cellk HB3.out kx1; have y7 := cellk (below_alloc w3 (.cells #[.int .i64 r, .slice ba bn bc] 32)) y4; have HC1c := Lib.hid (HC1.out.grow HB3.out); clear hown hob hnd hfb)
                  refine hK.out _ _ ?_ (fun hHeld => ?_)
                  · (try dsimp only)
                    (first | exact ⟨by simpa using q2, by simpa using j0, by simpa using j1⟩ | exact ⟨by simpa using a0, by simpa using a2, by simpa using a3⟩ | exact ⟨y0, y1, y3⟩ | exact ⟨cellk (below_alloc _ _) y0, cellk (below_alloc _ _) y1, cellk (below_alloc _ _) y3⟩ | exact ⟨x0, x1, x3⟩ | exact ⟨(World.cell?_setCell_other _ _ _ _ (by intro e; have := congrArg Addr.block e; simp at this; omega)).trans x0, (World.cell?_setCell_other _ _ _ _ (by intro e; have := congrArg Addr.block e; simp at this; omega)).trans x1, (World.cell?_setCell_other _ _ _ _ (by intro e; have := congrArg Addr.block e; simp at this; omega)).trans x3⟩)
                  clear hK K
                  (try simp only [Act.put, List.setIfInBounds_toArray, List.set_cons_zero, List.set_cons_succ])
                  refine wpAnyH_take (i := 16) (oi := _) (v := ?_) rfl (by kernel_rfl) (by kernel_rfl) (by kernel_rfl) (fun _ _ _ h => h) (Or.inl ⟨by rfl, ?_⟩) (by assumption) ?_
                  rotate_left
                  · (intro w hSw; (try dsimp only at hSw); go_simp <;> with_reducible rfl)
                  (try simp only [Act.put, List.setIfInBounds_toArray, List.set_cons_zero, List.set_cons_succ])
                  refine wpAnyH_ready (rs := [17]) (by kernel_rfl) (by simp) ?_
                  refine AllReadyH.cons (o := _) rfl (fun K hK => ?_) ?_
                  · go_simp
                    refine hK.out _ _ ?_ (fun hHeld => ?_)
                    · (try dsimp only)
                      (first | exact ⟨by simpa using q2, by simpa using j0, by simpa using j1⟩ | exact ⟨by simpa using a0, by simpa using a2, by simpa using a3⟩ | exact ⟨y0, y1, y3⟩ | exact ⟨cellk (below_alloc _ _) y0, cellk (below_alloc _ _) y1, cellk (below_alloc _ _) y3⟩ | exact ⟨x0, x1, x3⟩ | exact ⟨(World.cell?_setCell_other _ _ _ _ (by intro e; have := congrArg Addr.block e; simp at this; omega)).trans x0, (World.cell?_setCell_other _ _ _ _ (by intro e; have := congrArg Addr.block e; simp at this; omega)).trans x1, (World.cell?_setCell_other _ _ _ _ (by intro e; have := congrArg Addr.block e; simp at this; omega)).trans x3⟩)
                    clear hK K
                    (try simp only [Act.put, List.setIfInBounds_toArray, List.set_cons_zero, List.set_cons_succ])
                    refine wpAnyH_ready (rs := [18]) (by kernel_rfl) (by simp) ?_
                    refine AllReadyH.cons (o := _) rfl (fun K hK => ?_) ?_
                    · (refine step_app1D (by rfl) (.tmp 41) (.tmp 57) 42 (by rfl) 32 (.agg #[.int .i64 0, .slice none 0 0]) 2 32 Try.underlying42 info_Atom (by decide) (by decide) (by rfl) (.slice xa xn xc) L.length cs (by rfl) (HC1c.out.grow (below_alloc _ _)) w3.heap.size [.int .i64 r, .slice ba bn bc] (by rfl) (by simp [Value.oneCell']) (by rfl) (heap_alloc_new w3 _) (by omega) ?_; intro g' cap' w4 hown' ko hbl; have z1 := ko.cell HXB.out (cellk (below_alloc w3 _) y4); have z2 := ko.frozen (o := 1) (Nat.lt_of_lt_of_le HXS.out (Nat.le_trans HB3.out.size (below_alloc w3 _).size)) HXB.out (frok (below_alloc w3 _) y4 (frok HB3.out kx1 kxf)); have x0 := ko.cell HN0.out (cellk (below_alloc w3 _) y0); have x1 := ko.cell HN1.out (cellk (below_alloc w3 _) y1); have x3 := ko.cell HN1.out (cellk (below_alloc w3 _) y3); have HNEW := Lib.hid (QInv.step HQI.out HC1.out HC2.out HB3.out (below_alloc w3 _) HOB.out HFB.out HDI.out hown' ko (fun b hb => (hbl b hb).imp id (fun e => by rw [e]; exact Nat.le_refl _))))
                      refine hK.out _ _ ?_ (fun hHeld => ?_)
                      · (try dsimp only)
                        (first | exact ⟨by simpa using q2, by simpa using j0, by simpa using j1⟩ | exact ⟨by simpa using a0, by simpa using a2, by simpa using a3⟩ | exact ⟨y0, y1, y3⟩ | exact ⟨cellk (below_alloc _ _) y0, cellk (below_alloc _ _) y1, cellk (below_alloc _ _) y3⟩ | exact ⟨x0, x1, x3⟩ | exact ⟨(World.cell?_setCell_other _ _ _ _ (by intro e; have := congrArg Addr.block e; simp at this; omega)).trans x0, (World.cell?_setCell_other _ _ _ _ (by intro e; have := congrArg Addr.block e; simp at this; omega)).trans x1, (World.cell?_setCell_other _ _ _ _ (by intro e; have := congrArg Addr.block e; simp at this; omega)).trans x3⟩)
                      clear hK K
                      (try simp only [Act.put, List.setIfInBounds_toArray, List.set_cons_zero, List.set_cons_succ])
                      refine wpAnyH_take (i := 19) (oi := _) (v := ?_) rfl (by kernel_rfl) (by kernel_rfl) (by kernel_rfl) (fun _ _ _ h => h) (Or.inl ⟨by rfl, ?_⟩) (by assumption) ?_
                      rotate_left
                      · (intro w hSw; (try dsimp only at hSw); go_simp <;> with_reducible rfl)
                      (try simp only [Act.put, List.setIfInBounds_toArray, List.set_cons_zero, List.set_cons_succ])
                      refine wpAnyH_ready (rs := [20]) (by kernel_rfl) (by simp) ?_
                      refine AllReadyH.cons (o := _) rfl (fun K hK => ?_) ?_
                      · go_simp
                        refine hK.out _ _ ?_ (fun hHeld => ?_)
                        · (try dsimp only)
                          (first | exact ⟨by simpa using q2, by simpa using j0, by simpa using j1⟩ | exact ⟨by simpa using a0, by simpa using a2, by simpa using a3⟩ | exact ⟨y0, y1, y3⟩ | exact ⟨cellk (below_alloc _ _) y0, cellk (below_alloc _ _) y1, cellk (below_alloc _ _) y3⟩ | exact ⟨x0, x1, x3⟩ | exact ⟨(World.cell?_setCell_other _ _ _ _ (by intro e; have := congrArg Addr.block e; simp at this; omega)).trans x0, (World.cell?_setCell_other _ _ _ _ (by intro e; have := congrArg Addr.block e; simp at this; omega)).trans x1, (World.cell?_setCell_other _ _ _ _ (by intro e; have := congrArg Addr.block e; simp at this; omega)).trans x3⟩)
                        clear hK K
                        (try simp only [Act.put, List.setIfInBounds_toArray, List.set_cons_zero, List.set_cons_succ])
                        refine wpAnyH_done (by kernel_rfl) ?_ _
                        refine NoPanic.normal ?_
                        go_wp2_with fail
                        exact ⟨⟨k + 1, by omega, by simp, _, _, by rw [HRT.out]; exact HNEW.out⟩, by simp [intOf]; omega⟩
                      exact AllReadyH.nil
                    exact AllReadyH.nil
                  exact AllReadyH.nil
                exact AllReadyH.nil
              refine AllReadyH.cons (o := _) rfl (fun K hK => ?_) ?_
              · (refine step_appInts (by rfl) (.tmp 48) (.tmp 54) 22 (by rfl) 3 Try.underlying22 info_i64 _ [] (by rfl) HLIT.out _ l (by rfl) HIA.out (by have := HEZ.out; simp; omega) ?_; intro v' w3 hown; obtain ⟨ba, bn, bc, rfl⟩ := (Ints.ofBuilt hown (by simpa using HEI.out)).shape; obtain ⟨bsb, hob, hnd, hfb⟩ := OInts.ofBuilt hown (by simpa using HEI.out); have HOB : Hid (OInts w3 (.slice ba bn bc) l bsb) := Lib.hid (by simpa using hob); have HFB := Lib.hid hfb; have HB3 := Lib.hid hown.below; have y0 := cellk HB3.out q2; have y1 := cellk HB3.out j0; have y3 := cellk HB3.out j1; have y4 := cellk HB3.out kx1; have y7 := cellk (below_alloc w3 (.cells #[.int .i64 r, .slice ba bn bc] 32)) y4; have HC1c := Lib.hid (HC1.out.grow HB3.out); clear hown hob hnd hfb)
                refine hK.out _ _ ?_ (fun hHeld => ?_)
                · (try dsimp only)
                  (first | exact ⟨by simpa using q2, by simpa using j0, by simpa using j1⟩ | exact ⟨by simpa using a0, by simpa using a2, by simpa using a3⟩ | exact ⟨y0, y1, y3⟩ | exact ⟨cellk (below_alloc _ _) y0, cellk (below_alloc _ _) y1, cellk (below_alloc _ _) y3⟩ | exact ⟨x0, x1, x3⟩ | exact ⟨(World.cell?_setCell_other _ _ _ _ (by intro e; have := congrArg Addr.block e; simp at this; omega)).trans x0, (World.cell?_setCell_other _ _ _ _ (by intro e; have := congrArg Addr.block e; simp at this; omega)).trans x1, (World.cell?_setCell_other _ _ _ _ (by intro e; have := congrArg Addr.block e; simp at this; omega)).trans x3⟩)
                clear hK K
                (try simp only [Act.put, List.setIfInBounds_toArray, List.set_cons_zero, List.set_cons_succ])
                refine wpAnyH_take (i := 16) (oi := _) (v := ?_) rfl (by kernel_rfl) (by kernel_rfl) (by kernel_rfl) (fun _ _ _ h => h) (Or.inl ⟨by rfl, ?_⟩) (by assumption) ?_
                rotate_left
                · (intro w hSw; (try dsimp only at hSw); go_simp <;> with_reducible rfl)
                (try simp only [Act.put, List.setIfInBounds_toArray, List.set_cons_zero, List.set_cons_succ])
                refine wpAnyH_ready (rs := [1, 17]) (by kernel_rfl) (by simp) ?_
                refine AllReadyH.cons (o := _) rfl (fun K hK => ?_) ?_
                · go_simp
                  refine hK.out _ _ ?_ (fun hHeld => ?_)
                  · (try dsimp only)
                    (first | exact ⟨by simpa using q2, by simpa using j0, by simpa using j1⟩ | exact ⟨by simpa using a0, by simpa using a2, by simpa using a3⟩ | exact ⟨y0, y1, y3⟩ | exact ⟨cellk (below_alloc _ _) y0, cellk (below_alloc _ _) y1, cellk (below_alloc _ _) y3⟩ | exact ⟨x0, x1, x3⟩ | exact ⟨(World.cell?_setCell_other _ _ _ _ (by intro e; have := congrArg Addr.block e; simp at this; omega)).trans x0, (World.cell?_setCell_other _ _ _ _ (by intro e; have := congrArg Addr.block e; simp at this; omega)).trans x1, (World.cell?_setCell_other _ _ _ _ (by intro e; have := congrArg Addr.block e; simp at this; omega)).trans x3⟩)
                  clear hK K
                  (try simp only [Act.put, List.setIfInBounds_toArray, List.set_cons_zero, List.set_cons_succ])
                  refine wpAnyH_ready (rs := [17]) (by kernel_rfl) (by simp) ?_
                  refine AllReadyH.cons (o := _) rfl (fun K hK => ?_) ?_
                  · go_simp
                    refine hK.out _ _ ?_ (fun hHeld => ?_)
                    · (try dsimp only)
                      (first | exact ⟨by simpa using q2, by simpa using j0, by simpa using j1⟩ | exact ⟨by simpa using a0, by simpa using a2, by simpa using a3⟩ | exact ⟨y0, y1, y3⟩ | exact ⟨cellk (below_alloc _ _) y0, cellk (below_alloc _ _) y1, cellk (below_alloc _ _) y3⟩ | exact ⟨x0, x1, x3⟩ | exact ⟨(World.cell?_setCell_other _ _ _ _ (by intro e; have := congrArg Addr.block e; simp at this; omega)).trans x0, (World.cell?_setCell_other _ _ _ _ (by intro e; have := congrArg Addr.block e; simp at this; omega)).trans x1, (World.cell?_setCell_other _ _ _ _ (by intro e; have := congrArg Addr.block e; simp at this; omega)).trans x3⟩)
                    clear hK K
                    (try simp only [Act.put, List.setIfInBounds_toArray, List.set_cons_zero, List.set_cons_succ])
                    refine wpAnyH_ready (rs := [18]) (by kernel_rfl) (by simp) ?_
                    refine AllReadyH.cons (o := _) rfl (fun K hK => ?_) ?_
                    · (refine step_app1D (by rfl) (.tmp 41) (.tmp 57) 42 (by rfl) 32 (.agg #[.int .i64 0, .slice none 0 0]) 2 32 Try.underlying42 info_Atom (by decide) (by decide) (by rfl) (.slice xa xn xc) L.length cs (by rfl) (HC1c.out.grow (below_alloc _ _)) w3.heap.size [.int .i64 r, .slice ba bn bc] (by rfl) (by simp [Value.oneCell']) (by rfl) (heap_alloc_new w3 _) (by omega) ?_; intro g' cap' w4 hown' ko hbl; have z1 := ko.cell HXB.out (cellk (below_alloc w3 _) y4); have z2 := ko.frozen (o := 1) (Nat.lt_of_lt_of_le HXS.out (Nat.le_trans HB3.out.size (below_alloc w3 _).size)) HXB.out (frok (below_alloc w3 _) y4 (frok HB3.out kx1 kxf)); have x0 := ko.cell HN0.out (cellk (below_alloc w3 _) y0); have x1 := ko.cell HN1.out (cellk (below_alloc w3 _) y1); have x3 := ko.cell HN1.out (cellk (below_alloc w3 _) y3); have HNEW := Lib.hid (QInv.step HQI.out HC1.out HC2.out HB3.out (below_alloc w3 _) HOB.out HFB.out HDI.out hown' ko (fun b hb => (hbl b hb).imp id (fun e => by rw [e]; exact Nat.le_refl _))))
                      refine hK.out _ _ ?_ (fun hHeld => ?_)
                      · (try dsimp only)
                        (first | exact ⟨by simpa using q2, by simpa using j0, by simpa using j1⟩ | exact ⟨by simpa using a0, by simpa using a2, by simpa using a3⟩ | exact ⟨y0, y1, y3⟩ | exact ⟨cellk (below_alloc _ _) y0, cellk (below_alloc _ _) y1, cellk (below_alloc _ _) y3⟩ | exact ⟨x0, x1, x3⟩ | exact ⟨(World.cell?_setCell_other _ _ _ _ (by intro e; have := congrArg Addr.block e; simp at this; omega)).trans x0, (World.cell?_setCell_other _ _ _ _ (by intro e; have := congrArg Addr.block e; simp at this; omega)).trans x1, (World.cell?_setCell_other _ _ _ _ (by intro e; have := congrArg Addr.block e; simp at this; omega)).trans x3⟩)
                      clear hK K
                      (try simp only [Act.put, List.setIfInBounds_toArray, List.set_cons_zero, List.set_cons_succ])
                      refine wpAnyH_take (i := 19) (oi := _) (v := ?_) rfl (by kernel_rfl) (by kernel_rfl) (by kernel_rfl) (fun _ _ _ h => h) (Or.inl ⟨by rfl, ?_⟩) (by assumption) ?_
                      rotate_left
                      · (intro w hSw; (try dsimp only at hSw); go_simp <;> with_reducible rfl)
                      (try simp only [Act.put, List.setIfInBounds_toArray, List.set_cons_zero, List.set_cons_succ])
                      refine wpAnyH_ready (rs := [20]) (by kernel_rfl) (by simp) ?_
                      refine AllReadyH.cons (o := _) rfl (fun K hK => ?_) ?_
                      · go_simp
                        refine hK.out _ _ ?_ (fun hHeld => ?_)
                        · (try dsimp only)
                          (first | exact ⟨by simpa using q2, by simpa using j0, by simpa using j1⟩ | exact ⟨by simpa using a0, by simpa using a2, by simpa using a3⟩ | exact ⟨y0, y1, y3⟩ | exact ⟨cellk (below_alloc _ _) y0, cellk (below_alloc _ _) y1, cellk (below_alloc _ _) y3⟩ | exact ⟨x0, x1, x3⟩ | exact ⟨(World.cell?_setCell_other _ _ _ _ (by intro e; have := congrArg Addr.block e; simp at this; omega)).trans x0, (World.cell?_setCell_other _ _ _ _ (by intro e; have := congrArg Addr.block e; simp at this; omega)).trans x1, (World.cell?_setCell_other _ _ _ _ (by intro e; have := congrArg Addr.block e; simp at this; omega)).trans x3⟩)
                        clear hK K
                        (try simp only [Act.put, List.setIfInBounds_toArray, List.set_cons_zero, List.set_cons_succ])
                        refine wpAnyH_done (by kernel_rfl) ?_ _
                        refine NoPanic.normal ?_
                        go_wp2_with fail
                        exact ⟨⟨k + 1, by omega, by simp, _, _, by rw [HRT.out]; exact HNEW.out⟩, by simp [intOf]; omega⟩
                      exact AllReadyH.nil
                    exact AllReadyH.nil
                  exact AllReadyH.nil
                refine AllReadyH.cons (o := _) rfl (fun K hK => ?_) ?_
                · go_simp
                  refine hK.out _ _ ?_ (fun hHeld => ?_)
                  · (try dsimp only)
                    (first | exact ⟨by simpa using q2, by simpa using j0, by simpa using j1⟩ | exact ⟨by simpa using a0, by simpa using a2, by simpa using a3⟩ | exact ⟨y0, y1, y3⟩ | exact ⟨cellk (below_alloc _ _) y0, cellk (below_alloc _ _) y1, cellk (below_alloc _ _) y3⟩ | exact ⟨x0, x1, x3⟩ | exact ⟨(World.cell?_setCell_other _ _ _ _ (by intro e; have := congrArg Addr.block e; simp at this; omega)).trans x0, (World.cell?_setCell_other _ _ _ _ (by intro e; have := congrArg Addr.block e; simp at this; omega)).trans x1, (World.cell?_setCell_other _ _ _ _ (by intro e; have := congrArg Addr.block e; simp at this; omega)).trans x3⟩)
                  clear hK K
                  (try simp only [Act.put, List.setIfInBounds_toArray, List.set_cons_zero, List.set_cons_succ])
                  refine wpAnyH_ready (rs := [1]) (by kernel_rfl) (by simp) ?_
                  refine AllReadyH.cons (o := _) rfl (fun K hK => ?_) ?_
                  · go_simp
                    refine hK.out _ _ ?_ (fun hHeld => ?_)
                    · (try dsimp only)
                      (first | exact ⟨by simpa using q2, by simpa using j0, by simpa using j1⟩ | exact ⟨by simpa using a0, by simpa using a2, by simpa using a3⟩ | exact ⟨y0, y1, y3⟩ | exact ⟨cellk (below_alloc _ _) y0, cellk (below_alloc _ _) y1, cellk (below_alloc _ _) y3⟩ | exact ⟨x0, x1, x3⟩ | exact ⟨(World.cell?_setCell_other _ _ _ _ (by intro e; have := congrArg Addr.block e; simp at this; omega)).trans x0, (World.cell?_setCell_other _ _ _ _ (by intro e; have := congrArg Addr.block e; simp at this; omega)).trans x1, (World.cell?_setCell_other _ _ _ _ (by intro e; have := congrArg Addr.block e; simp at this; omega)).trans x3⟩)
                    clear hK K
                    (try simp only [Act.put, List.setIfInBounds_toArray, List.set_cons_zero, List.set_cons_succ])
                    refine wpAnyH_ready (rs := [18]) (by kernel_rfl) (by simp) ?_
                    refine AllReadyH.cons (o := _) rfl (fun K hK => ?_) ?_
                    · (refine step_app1D (by rfl) (.tmp 41) (.tmp 57) 42 (by rfl) 32 (.agg #[.int .i64 0, .slice none 0 0]) 2 32 Try.underlying42 info_Atom (by decide) (by decide) (by rfl) (.slice xa xn xc) L.length cs (by rfl) (HC1c.out.grow (below_alloc _ _)) w3.heap.size [.int .i64 r, .slice ba bn bc] (by rfl) (by simp [Value.oneCell']) (by rfl) (heap_alloc_new w3 _) (by omega) ?_; intro g' cap' w4 hown' ko hbl; have z1 := ko.cell HXB.out (cellk (below_alloc w3 _) y4); have z2 := ko.frozen (o := 1) (Nat.lt_of_lt_of_le HXS.out (Nat.le_trans HB3.out.size (below_alloc w3 _).size)) HXB.out (frok (below_alloc w3 _) y4 (frok HB3.out kx1 kxf)); have x0 := ko.cell HN0.out (cellk (below_alloc w3 _) y0); have x1 := ko.cell HN1.out (cellk (below_alloc w3 _) y1); have x3 := ko.cell HN1.out (cellk (below_alloc w3 _) y3); have HNEW := Lib.hid (QInv.step HQI.out HC1.out HC2.out HB3.out (below_alloc w3 _) HOB.out HFB.out HDI.out hown' ko (fun b hb => (hbl b hb).imp id (fun e => by rw [e]; exact Nat.le_refl _))))
                      refine hK.out _ _ ?_ (fun hHeld => ?_)
                      · (try dsimp only)
                        (first | exact ⟨by simpa using q2, by simpa using j0, by simpa using j1⟩ | exact ⟨by simpa using a0, by simpa using a2, by simpa using a3⟩ | exact ⟨y0, y1, y3⟩ | exact ⟨cellk (below_alloc _ _) y0, cellk (below_alloc _ _) y1, cellk (below_alloc _ _) y3⟩ | exact ⟨x0, x1, x3⟩ | exact ⟨(World.cell?_setCell_other _ _ _ _ (by intro e; have := congrArg Addr.block e; simp at this; omega)).trans x0, (World.cell?_setCell_other _ _ _ _ (by intro e; have := congrArg Addr.block e; simp at this; omega)).trans x1, (World.cell?_setCell_other _ _ _ _ (by intro e; have := congrArg Addr.block e; simp at this; omega)).trans x3⟩)
                      clear hK K
                      (try simp only [Act.put, List.setIfInBounds_toArray, List.set_cons_zero, List.set_cons_succ])
                      refine wpAnyH_take (i := 19) (oi := _) (v := ?_) rfl (by kernel_rfl) (by kernel_rfl) (by kernel_rfl) (fun _ _ _ h => h) (Or.inl ⟨by rfl, ?_⟩) (by assumption) ?_
                      rotate_left
                      · (intro w hSw; (try dsimp only at hSw); go_simp <;> with_reducible rfl)
                      (try simp only [Act.put, List.setIfInBounds_toArray, List.set_cons_zero, List.set_cons_succ])
                      refine wpAnyH_ready (rs := [20]) (by kernel_rfl) (by simp) ?_
                      refine AllReadyH.cons (o := _) rfl (fun K hK => ?_) ?_
                      · go_simp
                        refine hK.out _ _ ?_ (fun hHeld => ?_)
                        · (try dsimp only)
                          (first | exact ⟨by simpa using q2, by simpa using j0, by simpa using j1⟩ | exact ⟨by simpa using a0, by simpa using a2, by simpa using a3⟩ | exact ⟨y0, y1, y3⟩ | exact ⟨cellk (below_alloc _ _) y0, cellk (below_alloc _ _) y1, cellk (below_alloc _ _) y3⟩ | exact ⟨x0, x1, x3⟩ | exact ⟨(World.cell?_setCell_other _ _ _ _ (by intro e; have := congrArg Addr.block e; simp at this; omega)).trans x0, (World.cell?_setCell_other _ _ _ _ (by intro e; have := congrArg Addr.block e; simp at this; omega)).trans x1, (World.cell?_setCell_other _ _ _ _ (by intro e; have := congrArg Addr.block e; simp at this; omega)).trans x3⟩)
                        clear hK K
                        (try simp only [Act.put, List.setIfInBounds_toArray, List.set_cons_zero, List.set_cons_succ])
                        refine wpAnyH_done (by kernel_rfl) ?_ _
                        refine NoPanic.normal ?_
                        go_wp2_with fail
                        exact ⟨⟨k + 1, by omega, by simp, _, _, by rw [HRT.out]; exact HNEW.out⟩, by simp [intOf]; omega⟩
                      exact AllReadyH.nil
                    exact AllReadyH.nil
                  exact AllReadyH.nil
                exact AllReadyH.nil
              exact AllReadyH.nil
            exact AllReadyH.nil
        · obtain rfl : k = n := by omega
          have hT : d.2.take k = d.2 := List.take_of_length_le (by rw [HL.out]; exact Nat.le_refl _)
          have HBr := Lib.hid (bnext HB2.out hbq)
          have k0 := cellk hbq KK0.out
          have k1 := cellk hbq KK1.out
          have f0 := frok hbq KK0.out KF0.out
          have f1 := frok hbq KK1.out KF1.out
          have HSLr := Lib.hid (HSL2.out.below (by have := HSZ.out; omega) hbq)
          obtain ⟨h5, h6⟩ := HQI.out.done HOH.out HFH.out (by have := HSZ.out; omega) (OnlyAt.refl [w.heap.size] wr)
          rw [hT] at h6
          obtain ⟨_, _, _, e6, h6⟩ := h6
          cases e6
          have HXR : Hid (RdQuery wr (.agg #[.slice va vn vc, .slice xa xn xc]) (cut9 d i.toNat)) := ⟨_, _, _, _, _, _, rfl, h5, h6⟩
          have HSZr : Hid (w.heap.size + 3 ≤ wr.heap.size) := by have := hbq.size; have := HSZ.out; exact Lib.hid (by omega)
          clear h5 h6 hba hxs hbq
          go_wp2_with fail
          refine (HQX.out _ _ HBr.out HXR.out).mono ?_
          rintro e w5 ⟨rfl, hbb⟩
          have HSL5 := Lib.hid (HSLr.out.below (by have := HSZr.out; omega) hbb)
          have HXR5 := Lib.hid (HXR.out.below hbb)
          replace f0 := frok hbb k0 f0
          replace f1 := frok hbb k1 f1
          replace k0 := cellk hbb k0
          replace k1 := cellk hbb k1
          replace kx0 := cellk hbb kx0
          replace kx1 := cellk hbb kx1
          have qa := cellk hbb (cellk HQI.out.1.below KQ1.out)
          have qb := cellk hbb q2
          have HB5 := Lib.hid (bnext HBr.out hbb)
          have HSZ5 : Hid (w.heap.size + 3 ≤ w5.heap.size) := by have := hbb.size; have := HSZr.out; exact Lib.hid (by omega)
          clear hbb HSZr HSLr HXR
          have HSZ := HSZ5
          cases p3 with
          | false =>
            have HWBf : Hid (B = false) := HWB.out _ rfl
            have HWQf : Hid (Q = d) := HWQ.out rfl
            clear HWB HWQ HWQ2
            go_wp2_with fail
            refine (HCP.out _ HB5.out).mono ?_
            rintro e wc ⟨ra, rn, rc, ra', rn', rc', rfl, hr, hbc⟩
            replace f0 := frok hbc k0 f0
            replace f1 := frok hbc k1 f1
            replace k0 := cellk hbc k0
            replace k1 := cellk hbc k1
            have HSLc := Lib.hid (HSL5.out.below (by have := (Below.size HB5.out); have := HSZ.out; omega) hbc)
            have HBc := Lib.hid (bnext HB5.out hbc)
            have HRc := Lib.hid hr
            clear hbc hr
            go_wp2_with fail
            have hk : OnlyAt [w.heap.size + 1 + 1] wc ((wc.setCell ⟨w.heap.size + 1 + 1, 0, none⟩ (.slice ra rn rc)).setCell ⟨w.heap.size + 1 + 1, 1, none⟩ (.slice ra' rn' rc')) := (OnlyAt.setCell wc _ _ _).same (OnlyAt.setCell _ _ _ _)
            exact bodyPost_ret (v := .tuple #[.agg #[.slice ra rn rc, .slice ra' rn' rc'], .bool false]) (by simp [results, Try.results44, go_sem, k0, k1]) rfl ⟨_, _, _, _, _, _, by rw [HWBf.out], by rw [HWQf.out]; exact HRc.out.offS hk HSLc.out, OnlyAt.below HBc.out hk (fun x hx => by simp at hx; omega)⟩
          | true =>
            have HWBt : Hid (B = true) := HWB.out _ rfl
            have HWQt : Hid (Q = cut9 d i.toNat) := HWQ2.out rfl
            clear HWB HWQ HWQ2
            go_wp2_with fail
            have hk : OnlyAt [w.heap.size + 1 + 1] w5 ((w5.setCell ⟨w.heap.size + 1 + 1, 0, none⟩ (.slice va vn vc)).setCell ⟨w.heap.size + 1 + 1, 1, none⟩ (.slice xa xn xc)) := (OnlyAt.setCell w5 _ _ _).same (OnlyAt.setCell _ _ _ _)
            exact bodyPost_ret (v := .tuple #[.agg #[.slice va vn vc, .slice xa xn xc], .bool true]) (by simp [results, Try.results44, go_sem, k0, k1]) rfl ⟨_, _, _, _, _, _, by rw [HWBt.out], by rw [HWQt.out]; exact HXR5.out.offS hk HSL5.out, OnlyAt.below HB5.out hk (fun x hx => by simp at hx; omega)⟩
end Go.Proofs.Ytgnlglfppeepeaa
