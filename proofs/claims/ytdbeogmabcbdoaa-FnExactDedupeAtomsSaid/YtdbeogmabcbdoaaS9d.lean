/- Contract of chapter 9's spec: DedupeAtoms. -/
import Derived.Test.YtdbeogmabcbdoaaS9b
import Derived.Test.YtdbeogmabcbdoaaSfineV
import Derived.Lib.QuietBelow
import Derived.BigQuiet
namespace Go.Proofs.Ytdbeogmabcbdoaa
open Go Go.Sort Go.RowKit
set_option linter.unusedVariables false
set_option linter.unusedSimpArgs false

theorem mem_take9 {l : List AtomD} {k : Nat} {x e : AtomD} (h : l[k]? = some x) : decide (e ∈ l.take (k + 1)) = (decide (e ∈ l.take k) || decide (x = e)) := by
  obtain ⟨hk, rfl⟩ := List.getElem?_eq_some_iff.1 h
  rw [List.take_succ_eq_append_getElem hk]
  generalize l.take k = A
  generalize l[k] = y
  by_cases h1 : e ∈ A
  · simp [h1]
  · by_cases h2 : y = e
    · simp [h1, h2]
    · have h3 : ¬ e = y := fun h => h2 h.symm
      simp [h1, h2, h3]
theorem QInv.below9 {E : TypeId} {W w w' : World} {vh xv : Value} {l : List AtomD} {bss : List (List Nat)} (h : QInv E W w vh l xv bss) (hb : Below w.heap.size w w') : QInv E W w' vh l xv bss := by
  obtain ⟨⟨cs, h1, h2⟩, h3, h4, h5, h6, h7, h8⟩ := h
  exact ⟨⟨cs, h1.grow hb, h2.grow hb⟩, cellk hb h3, cellk hb h4, frok hb h3 h5, h6, fun b hb' => ⟨(h7 b hb').1, Nat.lt_of_lt_of_le (h7 b hb').2 hb.size⟩, Nat.lt_of_lt_of_le h8 hb.size⟩
theorem eq9 (x e : AtomD) : decide (x.1 = e.1 ∧ x.2 = e.2) = decide (x = e) := by
  obtain ⟨a, b⟩ := x
  obtain ⟨c, d⟩ := e
  simp
set_option maxRecDepth 100000 in
set_option maxHeartbeats 16000000 in
theorem sDedupe_any (w : World) (v : Value) (d : QueryD) (h : RdQuery w v d) (hz : sizeQuery d ≤ 1048576) :
    Calls Try.prog 25 #[v] w (GaveQ w (ddQ d)) := by
  have hs1 : d.1.length ≤ 1048576 := by unfold sizeQuery at hz; omega
  have hs2 : sizeAtomS d.2 ≤ 1048576 := by unfold sizeQuery at hz; omega
  obtain ⟨a0, n0, c0, a, n, c, rfl, hi, ha⟩ := h
  obtain ⟨hl, hn, hm, hcell⟩ := ha.at
  unfold maxLen at hm
  have HC := Lib.hid hcell
  have HL := Lib.hid hl
  have HI := Lib.hid hi
  have HZ1 := Lib.hid hs1
  have HSA := Lib.hid hs2
  have hln : n ≤ 1048576 := by unfold sizeAtomS at hs2; omega
  have hb0 : ∀ a b, Below w.heap.size w ((w.alloc a).alloc b) := fun a b => ((Below.refl _ _).alloc (Nat.le_refl _) _).alloc (by simp) _
  have HB0 := Lib.hid hb0
  clear hi ha hcell hl hb0 hs1 hs2 hz
  go_enter Try.func25, Try.ntmps25
  go_upto_region 1 with fail
  obtain ⟨w1, hW⟩ : ∃ W, W = (w.alloc (.cells #[.slice a0 n0 c0, .slice a n c] 32)).alloc (.cells #[.slice none 0 0, .slice none 0 0] 32) := ⟨_, rfl⟩
  have HB1 : Hid (Below w.heap.size w w1) := by rw [hW]; exact HB0.out _ _
  have q1 : w1.cell? ⟨w.heap.size, 0, none⟩ = some (.slice a0 n0 c0) := by rw [hW]; simp
  have q2 : w1.cell? ⟨w.heap.size, 1, none⟩ = some (.slice a n c) := by rw [hW]; simp
  have k0 : w1.cell? ⟨w.heap.size + 1, 0, none⟩ = some (.slice none 0 0) := by rw [hW]; simp
  have k1 : w1.cell? ⟨w.heap.size + 1, 1, none⟩ = some (.slice none 0 0) := by rw [hW]; simp
  have f0 : w1.frozen? ⟨w.heap.size + 1, 0, none⟩ = false := by rw [hW]; simp
  have f1 : w1.frozen? ⟨w.heap.size + 1, 1, none⟩ = false := by rw [hW]; simp
  have hsl : SlB w1 (w.heap.size + 1) := by
    rw [hW]
    have := SlB.new (w.alloc (.cells #[.slice a0 n0 c0, .slice a n c] 32)) none none 0 0 0 0 32
    simpa using this
  have HSL1 := Lib.hid hsl
  have HSZ : Hid (w.heap.size + 2 ≤ w1.heap.size) := by rw [hW]; exact Lib.hid (by simp)
  rw [← hW]
  clear hW hsl
  have hal := below_alloc w1 (.cells #[] 3)
  have hlit := Built.lit .i64 3 w1 w1 [] (Nat.zero_le _) (Below.refl _ _)
  have HLIT : Hid (Built .i64 3 w1 (w1.alloc (.cells #[] 3)) (.slice (some ⟨w1.heap.size, 0, none⟩) 0 0) []) := Lib.hid (by simpa using hlit)
  have HHA := Lib.hid (HI.out.below (bnext HB1.out hal))
  have z1 := cellk hal q1
  clear hlit hal
  go_wp2_with (at_builtin; refine wpList_appInts rfl (.tmp 7) (.tmp 9) 22 rfl 3 Try.underlying22 info_i64 _ [] rfl HLIT.out _ d.1 rfl HHA.out (by have := HZ1.out; simp; omega) ?_)
  clear z1
  intro vh w2 hown
  have hbl := hown.below
  obtain ⟨va, vn, vc, rfl⟩ := (Ints.ofBuilt hown (by simpa using HI.out.1)).shape
  obtain ⟨bh, hoh, hnd, hfr⟩ := OInts.ofBuilt hown (by simpa using HI.out.1)
  have HOH : Hid (OInts w2 (.slice va vn vc) d.1 bh) := Lib.hid (by simpa using hoh)
  have HFH : Hid (∀ b ∈ bh, b ≠ w.heap.size) := fun b hb e => by have := (hfr b hb).1; have := HSZ.out; omega
  have HSL2 := Lib.hid (HSL1.out.below (by have := HSZ.out; omega) hbl)
  replace f0 := frok hbl k0 f0
  replace f1 := frok hbl k1 f1
  replace q1 := cellk hbl q1
  replace q2 := cellk hbl q2
  replace k0 := cellk hbl k0
  replace k1 := cellk hbl k1
  have HB2 := Lib.hid (bnext HB1.out hbl)
  have HSZ2 : Hid (w.heap.size + 2 ≤ w2.heap.size) := by have := hbl.size; have := HSZ.out; exact Lib.hid (by omega)
  clear hown hbl hoh hnd hfr HLIT HHA HSL1 HSZ
  have HSZ := HSZ2
  go_wp2_with fail
  obtain ⟨W3, hW⟩ : ∃ W3, W3 = w2.alloc (.cells #[.slice va vn vc, .slice none 0 0] 32) := ⟨_, rfl⟩
  have HBA : Hid (Below w2.heap.size w2 W3) := by rw [hW]; exact Lib.hid (below_alloc _ _)
  have HQ0 : Hid (QInv 53 w2 W3 (.slice va vn vc) [] (.slice none 0 0) []) := by
    refine ⟨BuiltA.nil _ _ _ HBA.out, by rw [hW]; simp, by rw [hW]; simp, by rw [hW]; simp, fun b hb => by simp [blk] at hb, fun b hb => by simp at hb, by rw [hW]; simp⟩
  rw [← hW]
  have KQ1 := Lib.hid q1
  have KQ2 := Lib.hid q2
  have KK0 := Lib.hid k0
  have KK1 := Lib.hid k1
  have KF0 := Lib.hid f0
  have KF1 := Lib.hid f1
  clear hW HBA q1 q2 k0 k1 f0 f1
  go_loopw [4] (fun iv wr => ∃ i : Nat, i ≤ n ∧ iv = .int .i64 i ∧ ∃ xv bss, QInv 53 w2 wr (.slice va vn vc) (ddA (d.2.take i)) xv bss) (fun iv _ => n - (intOf iv).toNat)
  case atStart => exact ⟨0, by omega, rfl, _, _, by simpa [ddA] using HQ0.out⟩
  case round =>
    obtain ⟨wO, hwO⟩ : ∃ x, x = wr := ⟨_, rfl⟩
    subst hwO
    obtain ⟨i, hi, rfl, xv, bss, hq⟩ := hrel
    have HQI := Lib.hid hq
    obtain ⟨hba, kx1, kx0, kxf, hx6, _, hxs⟩ := hq
    have HXB : Hid (w2.heap.size ∉ blk xv) := fun hx => (hx6 _ hx).1 rfl
    have HXS := Lib.hid hxs
    clear hx6
    have hbq := hba.below
    have q2 := cellk hbq KQ2.out
    obtain ⟨xa, xn, xc, rfl⟩ := HQI.out.slice
    by_cases hlt : i < n
    · obtain ⟨b, off, rfl, hbw, hc⟩ := HC.out (by omega)
      obtain ⟨e, hd⟩ : ∃ e, d.2[i]? = some e := ⟨d.2[i]'(by rw [HL.out]; exact hlt), List.getElem?_eq_getElem (by rw [HL.out]; exact hlt)⟩
      obtain ⟨ea, em, ec, c0, c1, hdi, hints⟩ := atomAt (n := n) hc i e hd
      have hww := bnext HB2.out hbq
      have j0 := cellk hww c0
      have j1 := cellk hww c1
      have HTK := Lib.hid (ddA_take hd)
      have hi0 : (0 : Int) ≤ i := by omega
      have hi1 : (i : Int) < n := by omega
      have hlen2 : (ddA (d.2.take i)).length ≤ i := by have := ddA_len (d.2.take i); simp at this; omega
      have hez : e.2.length ≤ 1048576 := by
        have h5 := sumArgs_take hd
        have h6 := sumArgs_le d.2 (i + 1)
        have h7 := HSA.out
        unfold sizeAtomS at h7
        omega
      have HDI := Lib.hid hdi
      have HINT := Lib.hid (hints.below hww)
      obtain ⟨cs, hc1, hc2⟩ := hba
      have HC1 := Lib.hid hc1
      have HC2 := Lib.hid hc2
      have HEZ := Lib.hid hez
      generalize hLL : ddA (d.2.take i) = L at *
      have hxl : xn = L.length := by
        rcases hc1.form with ⟨e1, e2⟩ | ⟨g, cap, e1, _, _⟩
        · cases e1; exact e2.symm
        · cases e1; rfl
      have hbx : ∀ x ∈ blk (.slice xa xn xc), w2.heap.size ≤ x := by
        rcases hc1.form with ⟨e1, _⟩ | ⟨g, cap, e1, _, _⟩
        · rw [e1]; intro x hx; simp [blk] at hx
        · rw [e1] at hc1 ⊢; intro x hx; simp [blk] at hx; subst hx; exact hc1.lt.1
      subst hxl
      have hxi : L.length ≤ 1048576 := by omega
      have HROW : Hid (∀ (k : Nat) (x : AtomD), L[k]? = some x → ∃ g ya ym yc, xa = some ⟨g, 0, none⟩ ∧ wO.cell? ⟨g, k * 2, none⟩ = some (.int .i64 x.1) ∧ wO.cell? ⟨g, k * 2 + 1, none⟩ = some (.slice ya ym yc) ∧ Ints wO (.slice ya ym yc) x.2) := fun k x hx => by
        have hk := (List.getElem?_eq_some_iff.1 hx).1
        rcases hc1.form with ⟨_, e2⟩ | ⟨g, cap, e1, _, _⟩
        · omega
        · obtain ⟨ya, ym, yc, h1, h2, h3, h4⟩ := hc2.2 k x hx
          rw [e1] at hc1
          cases e1
          exact ⟨g, ya, ym, yc, rfl, by rw [hc1.cell _ (by omega)]; exact h1, by rw [hc1.cell _ (by omega)]; exact h2, h4.1⟩
      have hnb : w.heap.size < w2.heap.size := by have := HSZ.out; omega
      have hnb2 : b < w2.heap.size := by have := HSZ.out; omega
      have HN0 : Hid (w.heap.size ∉ blk (.slice xa L.length xc)) := fun hx => by have := hbx _ hx; omega
      have HN1 : Hid (b ∉ blk (.slice xa L.length xc)) := fun hx => by have := hbx _ hx; omega
      have HEQ9 : Hid (∀ (k : Nat) (x : AtomD), L[k]? = some x → ∀ (W : World), Below wO.heap.size wO W → ∀ ya ym yc, Ints wO (.slice ya ym yc) x.2 → Calls Try.prog 47 #[.agg #[.int .i64 x.1, .slice ya ym yc], .agg #[.int .i64 e.1, .slice ea em ec]] W (GaveBool W (decide (x = e)))) := fun k x hx W hb ya ym yc hy => by
        have := sEqualAtoms_any W x.1 e.1 (.slice ya ym yc) (.slice ea em ec) x.2 e.2 (hy.below hb) (HINT.out.below hb)
        rwa [eq9] at this
      clear hc hbw hd c0 c1 hdi hww hez hc1 hc2 hbx
      go_wp2_with fail
      go_loopw [5, 6] (fun fv kv wq => ∃ k : Nat, k ≤ L.length ∧ kv = .int .i64 k ∧ fv = .bool (decide (e ∈ L.take k)) ∧ Hid (Below wO.heap.size wO wq)) (fun _ kv _ => L.length - (intOf kv).toNat)
      case atStart => exact ⟨0, by omega, rfl, by simp, Lib.hid (Below.refl _ _)⟩
      case round =>
        obtain ⟨k, hk, rfl, rfl, HBQ⟩ := hrel
        obtain ⟨fb, hfb⟩ : ∃ fb, decide (e ∈ L.take k) = fb := ⟨_, rfl⟩
        have HFB := Lib.hid hfb
        rw [hfb]
        clear hfb
        have x1 := cellk HBQ.out kx1
        have y2 := cellk HBQ.out q2
        have y3 := cellk HBQ.out j0
        have y4 := cellk HBQ.out j1
        by_cases hltk : k < L.length
        · obtain ⟨x, hx⟩ : ∃ x, L[k]? = some x := ⟨L[k], List.getElem?_eq_getElem hltk⟩
          obtain ⟨g, ya, ym, yc, rfl, r0, r1, hyi⟩ := HROW.out k x hx
          have HMT := Lib.hid (mem_take9 (e := e) hx)
          rw [HFB.out] at HMT
          have HCL := Lib.hid (fun W hb => HEQ9.out k x hx W hb ya ym yc hyi)
          have g0 := cellk HBQ.out r0
          have g1 := cellk HBQ.out r1
          have hk0 : (0 : Int) ≤ k := by omega
          have hk1 : (k : Int) < L.length := by omega
          clear hx r0 r1 hyi
          cases fb with
          | true =>
            go_wp2_with fail
            refine wp_region_quiet_below (by kernel_rfl) (by kernel_rfl) ?_
            repeat (any_goals (first | go_big_quiet_step (fail) | quiet_step (fail)))
            refine wpQuiet_nil ?_
            intro _ hw'
            obtain ⟨⟨dq, osq⟩, hw''⟩ := hw'
            subst hw''
            go_wp2_with fail
            exact ⟨⟨k + 1, by omega, by simp, by rw [HMT.out]; rfl, Lib.hid (bnext HBQ.out (below_regrown _ _ _))⟩, by simp [intOf]; omega⟩
          | false =>
            go_wp2_with fail
            go_region_held3 (fun w' => w'.cell? ⟨w2.heap.size, 1, none⟩ = some (.slice (some ⟨g, 0, none⟩) L.length xc) ∧ w'.cell? ⟨g, k * 2, none⟩ = some (.int .i64 x.1) ∧ w'.cell? ⟨g, k * 2 + 1, none⟩ = some (.slice ya ym yc) ∧ w'.cell? ⟨w.heap.size, 1, none⟩ = some (.slice (some ⟨b, off, none⟩) n c) ∧ w'.cell? ⟨b, off + i * 2, none⟩ = some (.int .i64 e.1) ∧ w'.cell? ⟨b, off + i * 2 + 1, none⟩ = some (.slice ea em ec) ∧ Below wO.heap.size wO w')
              (first | assumption | exact ⟨by simpa using x1, by simpa using g0, by simpa using g1, by simpa using y2, by simpa using y3, by simpa using y4, HBQ.out.drew⟩ | (go_split_ands; exact ⟨cellk (by assumption) (by assumption), cellk (by assumption) (by assumption), cellk (by assumption) (by assumption), cellk (by assumption) (by assumption), cellk (by assumption) (by assumption), cellk (by assumption) (by assumption), bnext (by assumption) (by assumption)⟩))
              (first
                | (go_at_call 47; (try go_split_ands); refine (HCL.out _ (by assumption)).mono ?_; rintro e2 w3 ⟨rfl, hb3⟩))
            all_goals (go_wp2_with fail; (try go_split_ands))
            all_goals exact ⟨⟨k + 1, by omega, by simp, by rw [HMT.out]; rfl, Lib.hid (by assumption)⟩, by simp [intOf]; omega⟩
        · obtain rfl : k = L.length := by omega
          have hmem : decide (e ∈ L) = fb := by rw [← HFB.out, List.take_length]
          have HMEM := Lib.hid hmem
          clear hmem HROW HEQ9
          have HBr := Lib.hid (bnext hbq HBQ.out)
          cases fb with
          | true =>
            have HRT : Hid (ddA (d.2.take (i + 1)) = L) := by rw [HTK.out, if_pos (of_decide_eq_true HMEM.out)]; exact Lib.hid rfl
            have HQ9 := Lib.hid (QInv.below9 HQI.out HBQ.out)
            go_wp2_with fail
            exact ⟨⟨i + 1, by omega, by simp, _, _, by rw [HRT.out]; exact HQ9.out⟩, by simp [intOf]; omega⟩
          | false =>
            have HRT : Hid (ddA (d.2.take (i + 1)) = L ++ [(e.1, e.2)]) := by rw [HTK.out, if_neg (of_decide_eq_false HMEM.out)]; exact Lib.hid rfl
            obtain ⟨wr, hwr⟩ : ∃ x, x = wr := ⟨_, rfl⟩
            subst hwr
            replace HQI := Lib.hid (QInv.below9 HQI.out HBQ.out)
            replace HC1 := Lib.hid (HC1.out.grow HBQ.out)
            replace HC2 := Lib.hid (HC2.out.grow HBQ.out)
            replace HXS := Lib.hid (Nat.lt_of_lt_of_le HXS.out HBQ.out.size)
            have hal := below_alloc wr (.cells #[] 3)
            have hlit := Built.lit .i64 3 wr wr [] (Nat.zero_le _) (Below.refl _ _)
            have hlit2 : Built .i64 3 wr (wr.alloc (.cells #[] 3)) (.slice (some ⟨wr.heap.size, 0, none⟩) 0 0) [] := by simpa using hlit
            have HLIT := Lib.hid hlit2.drew
            have HIA := Lib.hid (HINT.out.below (bnext HBQ.out hal.drew))
            have HEI := Lib.hid HINT.out.1
            replace kxf := frok HBQ.out kx1 kxf
            replace kx1 := x1
            replace q2 := y2
            replace j0 := y3
            replace j1 := y4
            have a0 := cellk hal q2
            have a1 := cellk hal kx1
            have a2 := cellk hal j0
            have a3 := cellk hal j1
            generalize e.1 = r at *
            generalize e.2 = l at *
            clear hlit hlit2 hal x1 y2 y3 y4
            go_wp2_with fail
            refine wp_region_noPanic ?_
            refine wp_region_held_drew (S := (fun w' => w'.cell? ⟨w.heap.size, 1, none⟩ = some (.slice (some ⟨b, off, none⟩) n c) ∧ w'.cell? ⟨b, off + i * 2, none⟩ = some (.int .i64 r) ∧ w'.cell? ⟨b, off + i * 2 + 1, none⟩ = some (.slice ea em ec))) (by kernel_rfl) ?_ (fun hHeld => ?_)
            · (try dsimp only)
              (first | exact ⟨by simpa using q2, by simpa using j0, by simpa using j1⟩ | exact ⟨by simpa using a0, by simpa using a2, by simpa using a3⟩ | exact ⟨y0, y1, y3⟩ | exact ⟨cellk (below_alloc _ _) y0, cellk (below_alloc _ _) y1, cellk (below_alloc _ _) y3⟩ | exact ⟨x0, x1, x3⟩ | exact ⟨(World.cell?_setCell_other _ _ _ _ (by intro e; have := congrArg Addr.block e; simp at this; omega)).trans x0, (World.cell?_setCell_other _ _ _ _ (by intro e; have := congrArg Addr.block e; simp at this; omega)).trans x1, (World.cell?_setCell_other _ _ _ _ (by intro e; have := congrArg Addr.block e; simp at this; omega)).trans x3⟩)
            refine wpAnyH_take (i := 0) (oi := _) (v := ?_) rfl (by kernel_rfl) (by kernel_rfl) (by kernel_rfl) (fun _ _ _ h => h) (Or.inl ⟨by rfl, ?_⟩) (by assumption) ?_
            rotate_left
            · (intro w hSw; (try dsimp only at hSw); go_simp <;> with_reducible rfl)
            (try simp only [Act.put, List.setIfInBounds_toArray, List.set_cons_zero, List.set_cons_succ])
            refine wpAnyH_take (i := 2) (oi := _) (v := ?_) rfl (by kernel_rfl) (by kernel_rfl) (by kernel_rfl) (fun _ _ _ h => h) (Or.inl ⟨by rfl, ?_⟩) (by assumption) ?_
            rotate_left
            · (intro w hSw; (try dsimp only at hSw); go_simp <;> with_reducible rfl)
            (try simp only [Act.put, List.setIfInBounds_toArray, List.set_cons_zero, List.set_cons_succ])
            refine wpAnyH_take (i := 3) (oi := _) (v := ?_) rfl (by kernel_rfl) (by kernel_rfl) (by kernel_rfl) (fun _ _ _ h => h) (Or.inl ⟨by rfl, ?_⟩) (by assumption) ?_
            rotate_left
            · (intro w hSw; (try dsimp only at hSw); go_simp <;> with_reducible rfl)
            (try simp only [Act.put, List.setIfInBounds_toArray, List.set_cons_zero, List.set_cons_succ])
            refine wpAnyH_take (i := 4) (oi := _) (v := ?_) rfl (by kernel_rfl) (by kernel_rfl) (by kernel_rfl) (fun _ _ _ h => h) (Or.inl ⟨by rfl, ?_⟩) (by assumption) ?_
            rotate_left
            · (intro w hSw; (try dsimp only at hSw); go_simp <;> with_reducible rfl)
            (try simp only [Act.put, List.setIfInBounds_toArray, List.set_cons_zero, List.set_cons_succ])
            refine wpAnyH_take (i := 5) (oi := _) (v := ?_) rfl (by kernel_rfl) (by kernel_rfl) (by kernel_rfl) (fun _ _ _ h => h) (Or.inl ⟨by rfl, ?_⟩) (by assumption) ?_
            rotate_left
            · (intro w hSw; (try dsimp only at hSw); go_simp <;> with_reducible rfl)
            (try simp only [Act.put, List.setIfInBounds_toArray, List.set_cons_zero, List.set_cons_succ])
            refine wpAnyH_take (i := 6) (oi := _) (v := ?_) rfl (by kernel_rfl) (by kernel_rfl) (by kernel_rfl) (fun _ _ _ h => h) (Or.inl ⟨by rfl, ?_⟩) (by assumption) ?_
            rotate_left
            · (intro w hSw; (try dsimp only at hSw); go_simp <;> with_reducible rfl)
            (try simp only [Act.put, List.setIfInBounds_toArray, List.set_cons_zero, List.set_cons_succ])
            refine wpAnyH_take (i := 7) (oi := _) (v := ?_) rfl (by kernel_rfl) (by kernel_rfl) (by kernel_rfl) (fun _ _ _ h => h) (Or.inl ⟨by rfl, ?_⟩) (by assumption) ?_
            rotate_left
            · (intro w hSw; (try dsimp only at hSw); go_simp <;> with_reducible rfl)
            (try simp only [Act.put, List.setIfInBounds_toArray, List.set_cons_zero, List.set_cons_succ])
            refine wpAnyH_take (i := 9) (oi := _) (v := ?_) rfl (by kernel_rfl) (by kernel_rfl) (by kernel_rfl) (fun _ _ _ h => h) (Or.inl ⟨by rfl, ?_⟩) (by assumption) ?_
            rotate_left
            · (intro w hSw; (try dsimp only at hSw); go_simp <;> with_reducible rfl)
            (try simp only [Act.put, List.setIfInBounds_toArray, List.set_cons_zero, List.set_cons_succ])
            refine wpAnyH_take (i := 10) (oi := _) (v := ?_) rfl (by kernel_rfl) (by kernel_rfl) (by kernel_rfl) (fun _ _ _ h => h) (Or.inl ⟨by rfl, ?_⟩) (by assumption) ?_
            rotate_left
            · (intro w hSw; (try dsimp only at hSw); go_simp <;> with_reducible rfl)
            (try simp only [Act.put, List.setIfInBounds_toArray, List.set_cons_zero, List.set_cons_succ])
            refine wpAnyH_take (i := 11) (oi := _) (v := ?_) rfl (by kernel_rfl) (by kernel_rfl) (by kernel_rfl) (fun _ _ _ h => h) (Or.inl ⟨by rfl, ?_⟩) (by assumption) ?_
            rotate_left
            · (intro w hSw; (try dsimp only at hSw); go_simp <;> with_reducible rfl)
            (try simp only [Act.put, List.setIfInBounds_toArray, List.set_cons_zero, List.set_cons_succ])
            refine wpAnyH_take (i := 12) (oi := _) (v := ?_) rfl (by kernel_rfl) (by kernel_rfl) (by kernel_rfl) (fun _ _ _ h => h) (Or.inl ⟨by rfl, ?_⟩) (by assumption) ?_
            rotate_left
            · (intro w hSw; (try dsimp only at hSw); go_simp <;> with_reducible rfl)
            (try simp only [Act.put, List.setIfInBounds_toArray, List.set_cons_zero, List.set_cons_succ])
            refine wpAnyH_take (i := 13) (oi := _) (v := ?_) rfl (by kernel_rfl) (by kernel_rfl) (by kernel_rfl) (fun _ _ _ h => h) (Or.inl ⟨by rfl, ?_⟩) (by assumption) ?_
            rotate_left
            · (intro w hSw; (try dsimp only at hSw); go_simp <;> with_reducible rfl)
            (try simp only [Act.put, List.setIfInBounds_toArray, List.set_cons_zero, List.set_cons_succ])
            refine wpAnyH_take (i := 14) (oi := _) (v := ?_) rfl (by kernel_rfl) (by kernel_rfl) (by kernel_rfl) (fun _ _ _ h => h) (Or.inl ⟨by rfl, ?_⟩) (by assumption) ?_
            rotate_left
            · (intro w hSw; (try dsimp only at hSw); go_simp <;> with_reducible rfl)
            (try simp only [Act.put, List.setIfInBounds_toArray, List.set_cons_zero, List.set_cons_succ])
            refine wpAnyH_ready (rs := [1, 8]) (by kernel_rfl) (by simp) ?_
            refine AllReadyH.cons (o := _) rfl (fun K hK => ?_) ?_
            · go_simp
              refine hK.out _ _ ?_ (fun hHeld => ?_)
              · (try dsimp only)
                (first | exact ⟨by simpa using q2, by simpa using j0, by simpa using j1⟩ | exact ⟨by simpa using a0, by simpa using a2, by simpa using a3⟩ | exact ⟨y0, y1, y3⟩ | exact ⟨cellk (below_alloc _ _) y0, cellk (below_alloc _ _) y1, cellk (below_alloc _ _) y3⟩ | exact ⟨x0, x1, x3⟩ | exact ⟨(World.cell?_setCell_other _ _ _ _ (by intro e; have := congrArg Addr.block e; simp at this; omega)).trans x0, (World.cell?_setCell_other _ _ _ _ (by intro e; have := congrArg Addr.block e; simp at this; omega)).trans x1, (World.cell?_setCell_other _ _ _ _ (by intro e; have := congrArg Addr.block e; simp at this; omega)).trans x3⟩)
              clear hK K
              (try simp only [Act.put, List.setIfInBounds_toArray, List.set_cons_zero, List.set_cons_succ])
              refine wpAnyH_ready (rs := [8]) (by kernel_rfl) (by simp) ?_
              refine AllReadyH.cons (o := _) rfl (fun K hK => ?_) ?_
              · go_simp
                refine hK.out _ _ ?_ (fun hHeld => ?_)
                · (try dsimp only)
                  (first | exact ⟨by simpa using q2, by simpa using j0, by simpa using j1⟩ | exact ⟨by simpa using a0, by simpa using a2, by simpa using a3⟩ | exact ⟨y0, y1, y3⟩ | exact ⟨cellk (below_alloc _ _) y0, cellk (below_alloc _ _) y1, cellk (below_alloc _ _) y3⟩ | exact ⟨x0, x1, x3⟩ | exact ⟨(World.cell?_setCell_other _ _ _ _ (by intro e; have := congrArg Addr.block e; simp at this; omega)).trans x0, (World.cell?_setCell_other _ _ _ _ (by intro e; have := congrArg Addr.block e; simp at this; omega)).trans x1, (World.cell?_setCell_other _ _ _ _ (by intro e; have := congrArg Addr.block e; simp at this; omega)).trans x3⟩)
                clear hK K
                (try simp only [Act.put, List.setIfInBounds_toArray, List.set_cons_zero, List.set_cons_succ])
                refine wpAnyH_ready (rs := [15]) (by kernel_rfl) (by simp) ?_
                refine AllReadyH.cons (o := _) rfl (fun K hK => ?_) ?_
                · (refine step_appInts (by rfl) (.tmp 50) (.tmp 56) 22 (by rfl) 3 Try.underlying22 info_i64 _ [] (by rfl) HLIT.out _ l (by rfl) HIA.out (by have := HEZ.out; simp; omega) ?_; intro v' w3 hown; obtain ⟨ba, bn, bc, rfl⟩ := (Ints.ofBuilt hown (by simpa using HEI.out)).shape; obtain ⟨bsb, hob, hnd, hfb⟩ := OInts.ofBuilt hown (by simpa using HEI.out); have HOB : Hid (OInts w3 (.slice ba bn bc) l bsb) := Lib.hid (by simpa using hob); have HFB := Lib.hid hfb; have HB3 := Lib.hid hown.below; have y0 := cellk HB3.out q2; have y1 := cellk HB3.out j0; have y3 := cellk HB3.out j1; have y4 := cellk HB3.out kx1; have y7 := cellk (below_alloc w3 (.cells #[.int .i64 r, .slice ba bn bc] 53)) y4; have HC1c := Lib.hid (HC1.out.grow HB3.out); clear hown hob hnd hfb)
                  refine hK.out _ _ ?_ (fun hHeld => ?_)
                  · (try dsimp only)
                    (first | exact ⟨by simpa using q2, by simpa using j0, by simpa using j1⟩ | exact ⟨by simpa using a0, by simpa using a2, by simpa using a3⟩ | exact ⟨y0, y1, y3⟩ | exact ⟨cellk (below_alloc _ _) y0, cellk (below_alloc _ _) y1, cellk (below_alloc _ _) y3⟩ | exact ⟨x0, x1, x3⟩ | exact ⟨(World.cell?_setCell_other _ _ _ _ (by intro e; have := congrArg Addr.block e; simp at this; omega)).trans x0, (World.cell?_setCell_other _ _ _ _ (by intro e; have := congrArg Addr.block e; simp at this; omega)).trans x1, (World.cell?_setCell_other _ _ _ _ (by intro e; have := congrArg Addr.block e; simp at this; omega)).trans x3⟩)
                  clear hK K
                  (try simp only [Act.put, List.setIfInBounds_toArray, List.set_cons_zero, List.set_cons_succ])
                  refine wpAnyH_take (i := 16) (oi := _) (v := ?_) rfl (by kernel_rfl) (by kernel_rfl) (by kernel_rfl) (fun _ _ _ h => h) (Or.inl ⟨by rfl, ?_⟩) (by assumption) ?_
                  rotate_left
                  · (intro w hSw; (try dsimp only at hSw); go_simp <;> with_reducible rfl)
                  (try simp only [Act.put, List.setIfInBounds_toArray, List.set_cons_zero, List.set_cons_succ])
                  refine wpAnyH_ready (rs := [17]) (by kernel_rfl) (by simp) ?_
                  refine AllReadyH.cons (o := _) rfl (fun K hK => ?_) ?_
                  · go_simp
                    refine hK.out _ _ ?_ (fun hHeld => ?_)
                    · (try dsimp only)
                      (first | exact ⟨by simpa using q2, by simpa using j0, by simpa using j1⟩ | exact ⟨by simpa using a0, by simpa using a2, by simpa using a3⟩ | exact ⟨y0, y1, y3⟩ | exact ⟨cellk (below_alloc _ _) y0, cellk (below_alloc _ _) y1, cellk (below_alloc _ _) y3⟩ | exact ⟨x0, x1, x3⟩ | exact ⟨(World.cell?_setCell_other _ _ _ _ (by intro e; have := congrArg Addr.block e; simp at this; omega)).trans x0, (World.cell?_setCell_other _ _ _ _ (by intro e; have := congrArg Addr.block e; simp at this; omega)).trans x1, (World.cell?_setCell_other _ _ _ _ (by intro e; have := congrArg Addr.block e; simp at this; omega)).trans x3⟩)
                    clear hK K
                    (try simp only [Act.put, List.setIfInBounds_toArray, List.set_cons_zero, List.set_cons_succ])
                    refine wpAnyH_ready (rs := [18]) (by kernel_rfl) (by simp) ?_
                    refine AllReadyH.cons (o := _) rfl (fun K hK => ?_) ?_
                    · (refine step_app1D (by rfl) (.tmp 43) (.tmp 59) 30 (by rfl) 53 (.agg #[.int .i64 0, .slice none 0 0]) 2 32 Try.underlying30 info_Atom (by decide) (by decide) (by rfl) (.slice xa L.length xc) L.length cs (by rfl) (HC1c.out.grow (below_alloc _ _)) w3.heap.size [.int .i64 r, .slice ba bn bc] (by rfl) (by simp [Value.oneCell']) (by rfl) (heap_alloc_new w3 _) (by omega) ?_; intro g' cap' w4 hown' ko hbl; have z1 := ko.cell HXB.out (cellk (below_alloc w3 _) y4); have z2 := ko.frozen (o := 1) (Nat.lt_of_lt_of_le HXS.out (Nat.le_trans HB3.out.size (below_alloc w3 _).size)) HXB.out (frok (below_alloc w3 _) y4 (frok HB3.out kx1 kxf)); have x0 := ko.cell HN0.out (cellk (below_alloc w3 _) y0); have x1 := ko.cell HN1.out (cellk (below_alloc w3 _) y1); have x3 := ko.cell HN1.out (cellk (below_alloc w3 _) y3); have HNEW := Lib.hid (QInv.step HQI.out HC1.out HC2.out HB3.out (below_alloc w3 _) HOB.out HFB.out HDI.out hown' ko (fun b hb => (hbl b hb).imp id (fun e => by rw [e]; exact Nat.le_refl _))))
                      refine hK.out _ _ ?_ (fun hHeld => ?_)
                      · (try dsimp only)
                        (first | exact ⟨by simpa using q2, by simpa using j0, by simpa using j1⟩ | exact ⟨by simpa using a0, by simpa using a2, by simpa using a3⟩ | exact ⟨y0, y1, y3⟩ | exact ⟨cellk (below_alloc _ _) y0, cellk (below_alloc _ _) y1, cellk (below_alloc _ _) y3⟩ | exact ⟨x0, x1, x3⟩ | exact ⟨(World.cell?_setCell_other _ _ _ _ (by intro e; have := congrArg Addr.block e; simp at this; omega)).trans x0, (World.cell?_setCell_other _ _ _ _ (by intro e; have := congrArg Addr.block e; simp at this; omega)).trans x1, (World.cell?_setCell_other _ _ _ _ (by intro e; have := congrArg Addr.block e; simp at this; omega)).trans x3⟩)
                      clear hK K
                      (try simp only [Act.put, List.setIfInBounds_toArray, List.set_cons_zero, List.set_cons_succ])
                      refine wpAnyH_take (i := 19) (oi := _) (v := ?_) rfl (by kernel_rfl) (by kernel_rfl) (by kernel_rfl) (fun _ _ _ h => h) (Or.inl ⟨by rfl, ?_⟩) (by assumption) ?_
                      rotate_left
                      · (intro w hSw; (try dsimp only at hSw); go_simp <;> with_reducible rfl)
                      (try simp only [Act.put, List.setIfInBounds_toArray, List.set_cons_zero, List.set_cons_succ])
                      refine wpAnyH_ready (rs := [20]) (by kernel_rfl) (by simp) ?_
                      refine AllReadyH.cons (o := _) rfl (fun K hK => ?_) ?_
                      · go_simp
                        refine hK.out _ _ ?_ (fun hHeld => ?_)
                        · (try dsimp only)
                          (first | exact ⟨by simpa using q2, by simpa using j0, by simpa using j1⟩ | exact ⟨by simpa using a0, by simpa using a2, by simpa using a3⟩ | exact ⟨y0, y1, y3⟩ | exact ⟨cellk (below_alloc _ _) y0, cellk (below_alloc _ _) y1, cellk (below_alloc _ _) y3⟩ | exact ⟨x0, x1, x3⟩ | exact ⟨(World.cell?_setCell_other _ _ _ _ (by intro e; have := congrArg Addr.block e; simp at this; omega)).trans x0, (World.cell?_setCell_other _ _ _ _ (by intro e; have := congrArg Addr.block e; simp at this; omega)).trans x1, (World.cell?_setCell_other _ _ _ _ (by intro e; have := congrArg Addr.block e; simp at this; omega)).trans x3⟩)
                        clear hK K
                        (try simp only [Act.put, List.setIfInBounds_toArray, List.set_cons_zero, List.set_cons_succ])
                        refine wpAnyH_done (by kernel_rfl) ?_ _
                        refine NoPanic.normal ?_
                        go_wp2_with fail
                        exact ⟨⟨i + 1, by omega, by simp, _, _, by rw [HRT.out]; exact HNEW.out⟩, by simp [intOf]; omega⟩
                      exact AllReadyH.nil
                    exact AllReadyH.nil
                  exact AllReadyH.nil
                exact AllReadyH.nil
              exact AllReadyH.nil
            refine AllReadyH.cons (o := _) rfl (fun K hK => ?_) ?_
            · go_simp
              refine hK.out _ _ ?_ (fun hHeld => ?_)
              · (try dsimp only)
                (first | exact ⟨by simpa using q2, by simpa using j0, by simpa using j1⟩ | exact ⟨by simpa using a0, by simpa using a2, by simpa using a3⟩ | exact ⟨y0, y1, y3⟩ | exact ⟨cellk (below_alloc _ _) y0, cellk (below_alloc _ _) y1, cellk (below_alloc _ _) y3⟩ | exact ⟨x0, x1, x3⟩ | exact ⟨(World.cell?_setCell_other _ _ _ _ (by intro e; have := congrArg Addr.block e; simp at this; omega)).trans x0, (World.cell?_setCell_other _ _ _ _ (by intro e; have := congrArg Addr.block e; simp at this; omega)).trans x1, (World.cell?_setCell_other _ _ _ _ (by intro e; have := congrArg Addr.block e; simp at this; omega)).trans x3⟩)
              clear hK K
              (try simp only [Act.put, List.setIfInBounds_toArray, List.set_cons_zero, List.set_cons_succ])
              refine wpAnyH_ready (rs := [1, 15]) (by kernel_rfl) (by simp) ?_
              refine AllReadyH.cons (o := _) rfl (fun K hK => ?_) ?_
              · go_simp
                refine hK.out _ _ ?_ (fun hHeld => ?_)
                · (try dsimp only)
                  (first | exact ⟨by simpa using q2, by simpa using j0, by simpa using j1⟩ | exact ⟨by simpa using a0, by simpa using a2, by simpa using a3⟩ | exact ⟨y0, y1, y3⟩ | exact ⟨cellk (below_alloc _ _) y0, cellk (below_alloc _ _) y1, cellk (below_alloc _ _) y3⟩ | exact ⟨x0, x1, x3⟩ | exact ⟨(World.cell?_setCell_other _ _ _ _ (by intro e; have := congrArg Addr.block e; simp at this; omega)).trans x0, (World.cell?_setCell_other _ _ _ _ (by intro e; have := congrArg Addr.block e; simp at this; omega)).trans x1, (World.cell?_setCell_other _ _ _ _ (by intro e; have := congrArg Addr.block e; simp at this; omega)).trans x3⟩)
                clear hK K
                (try simp only [Act.put, List.setIfInBounds_toArray, List.set_cons_zero, List.set_cons_succ])
                refine wpAnyH_ready (rs := [15]) (by kernel_rfl) (by simp) ?_
                refine AllReadyH.cons (o := _) rfl (fun K hK => ?_) ?_
                · (refine step_appInts (by rfl) (.tmp 50) (.tmp 56) 22 (by rfl) 3 Try.underlying22 info_i64 _ [] (by rfl) HLIT.out _ l (by rfl) HIA.out (by have := HEZ.out; simp; omega) ?_; intro v' w3 hown; obtain ⟨ba, bn, bc, rfl⟩ := (Ints.ofBuilt hown (by simpa using HEI.out)).shape; obtain ⟨bsb, hob, hnd, hfb⟩ := OInts.ofBuilt hown (by simpa using HEI.out); have HOB : Hid (OInts w3 (.slice ba bn bc) l bsb) := Lib.hid (by simpa using hob); have HFB := Lib.hid hfb; have HB3 := Lib.hid hown.below; have y0 := cellk HB3.out q2; have y1 := cellk HB3.out j0; have y3 := cellk HB3.out j1; have y4 := cellk HB3.out kx1; have y7 := cellk (below_alloc w3 (.cells #[.int .i64 r, .slice ba bn bc] 53)) y4; have HC1c := Lib.hid (HC1.out.grow HB3.out); clear hown hob hnd hfb)
                  refine hK.out _ _ ?_ (fun hHeld => ?_)
                  · (try dsimp only)
                    (first | exact ⟨by simpa using q2, by simpa using j0, by simpa using j1⟩ | exact ⟨by simpa using a0, by simpa using a2, by simpa using a3⟩ | exact ⟨y0, y1, y3⟩ | exact ⟨cellk (below_alloc _ _) y0, cellk (below_alloc _ _) y1, cellk (below_alloc _ _) y3⟩ | exact ⟨x0, x1, x3⟩ | exact ⟨(World.cell?_setCell_other _ _ _ _ (by intro e; have := congrArg Addr.block e; simp at this; omega)).trans x0, (World.cell?_setCell_other _ _ _ _ (by intro e; have := congrArg Addr.block e; simp at this; omega)).trans x1, (World.cell?_setCell_other _ _ _ _ (by intro e; have := congrArg Addr.block e; simp at this; omega)).trans x3⟩)
                  clear hK K
                  (try simp only [Act.put, List.setIfInBounds_toArray, List.set_cons_zero, List.set_cons_succ])
                  refine wpAnyH_take (i := 16) (oi := _) (v := ?_) rfl (by kernel_rfl) (by kernel_rfl) (by kernel_rfl) (fun _ _ _ h => h) (Or.inl ⟨by rfl, ?_⟩) (by assumption) ?_
                  rotate_left
                  · (intro w hSw; (try dsimp only at hSw); go_simp <;> with_reducible rfl)
                  (try simp only [Act.put, List.setIfInBounds_toArray, List.set_cons_zero, List.set_cons_succ])
                  refine wpAnyH_ready (rs := [17]) (by kernel_rfl) (by simp) ?_
                  refine AllReadyH.cons (o := _) rfl (fun K hK => ?_) ?_
                  · go_simp
                    refine hK.out _ _ ?_ (fun hHeld => ?_)
                    · (try dsimp only)
                      (first | exact ⟨by simpa using q2, by simpa using j0, by simpa using j1⟩ | exact ⟨by simpa using a0, by simpa using a2, by simpa using a3⟩ | exact ⟨y0, y1, y3⟩ | exact ⟨cellk (below_alloc _ _) y0, cellk (below_alloc _ _) y1, cellk (below_alloc _ _) y3⟩ | exact ⟨x0, x1, x3⟩ | exact ⟨(World.cell?_setCell_other _ _ _ _ (by intro e; have := congrArg Addr.block e; simp at this; omega)).trans x0, (World.cell?_setCell_other _ _ _ _ (by intro e; have := congrArg Addr.block e; simp at this; omega)).trans x1, (World.cell?_setCell_other _ _ _ _ (by intro e; have := congrArg Addr.block e; simp at this; omega)).trans x3⟩)
                    clear hK K
                    (try simp only [Act.put, List.setIfInBounds_toArray, List.set_cons_zero, List.set_cons_succ])
                    refine wpAnyH_ready (rs := [18]) (by kernel_rfl) (by simp) ?_
                    refine AllReadyH.cons (o := _) rfl (fun K hK => ?_) ?_
                    · (refine step_app1D (by rfl) (.tmp 43) (.tmp 59) 30 (by rfl) 53 (.agg #[.int .i64 0, .slice none 0 0]) 2 32 Try.underlying30 info_Atom (by decide) (by decide) (by rfl) (.slice xa L.length xc) L.length cs (by rfl) (HC1c.out.grow (below_alloc _ _)) w3.heap.size [.int .i64 r, .slice ba bn bc] (by rfl) (by simp [Value.oneCell']) (by rfl) (heap_alloc_new w3 _) (by omega) ?_; intro g' cap' w4 hown' ko hbl; have z1 := ko.cell HXB.out (cellk (below_alloc w3 _) y4); have z2 := ko.frozen (o := 1) (Nat.lt_of_lt_of_le HXS.out (Nat.le_trans HB3.out.size (below_alloc w3 _).size)) HXB.out (frok (below_alloc w3 _) y4 (frok HB3.out kx1 kxf)); have x0 := ko.cell HN0.out (cellk (below_alloc w3 _) y0); have x1 := ko.cell HN1.out (cellk (below_alloc w3 _) y1); have x3 := ko.cell HN1.out (cellk (below_alloc w3 _) y3); have HNEW := Lib.hid (QInv.step HQI.out HC1.out HC2.out HB3.out (below_alloc w3 _) HOB.out HFB.out HDI.out hown' ko (fun b hb => (hbl b hb).imp id (fun e => by rw [e]; exact Nat.le_refl _))))
                      refine hK.out _ _ ?_ (fun hHeld => ?_)
                      · (try dsimp only)
                        (first | exact ⟨by simpa using q2, by simpa using j0, by simpa using j1⟩ | exact ⟨by simpa using a0, by simpa using a2, by simpa using a3⟩ | exact ⟨y0, y1, y3⟩ | exact ⟨cellk (below_alloc _ _) y0, cellk (below_alloc _ _) y1, cellk (below_alloc _ _) y3⟩ | exact ⟨x0, x1, x3⟩ | exact ⟨(World.cell?_setCell_other _ _ _ _ (by intro e; have := congrArg Addr.block e; simp at this; omega)).trans x0, (World.cell?_setCell_other _ _ _ _ (by intro e; have := congrArg Addr.block e; simp at this; omega)).trans x1, (World.cell?_setCell_other _ _ _ _ (by intro e; have := congrArg Addr.block e; simp at this; omega)).trans x3⟩)
                      clear hK K
                      (try simp only [Act.put, List.setIfInBounds_toArray, List.set_cons_zero, List.set_cons_succ])
                      refine wpAnyH_take (i := 19) (oi := _) (v := ?_) rfl (by kernel_rfl) (by kernel_rfl) (by kernel_rfl) (fun _ _ _ h => h) (Or.inl ⟨by rfl, ?_⟩) (by assumption) ?_
                      rotate_left
                      · (intro w hSw; (try dsimp only at hSw); go_simp <;> with_reducible rfl)
                      (try simp only [Act.put, List.setIfInBounds_toArray, List.set_cons_zero, List.set_cons_succ])
                      refine wpAnyH_ready (rs := [20]) (by kernel_rfl) (by simp) ?_
                      refine AllReadyH.cons (o := _) rfl (fun K hK => ?_) ?_
                      · go_simp
                        refine hK.out _ _ ?_ (fun hHeld => ?_)
                        · (try dsimp only)
                          (first | exact ⟨by simpa using q2, by simpa using j0, by simpa using j1⟩ | exact ⟨by simpa using a0, by simpa using a2, by simpa using a3⟩ | exact ⟨y0, y1, y3⟩ | exact ⟨cellk (below_alloc _ _) y0, cellk (below_alloc _ _) y1, cellk (below_alloc _ _) y3⟩ | exact ⟨x0, x1, x3⟩ | exact ⟨(World.cell?_setCell_other _ _ _ _ (by intro e; have := congrArg Addr.block e; simp at this; omega)).trans x0, (World.cell?_setCell_other _ _ _ _ (by intro e; have := congrArg Addr.block e; simp at this; omega)).trans x1, (World.cell?_setCell_other _ _ _ _ (by intro e; have := congrArg Addr.block e; simp at this; omega)).trans x3⟩)
                        clear hK K
                        (try simp only [Act.put, List.setIfInBounds_toArray, List.set_cons_zero, List.set_cons_succ])
                        refine wpAnyH_done (by kernel_rfl) ?_ _
                        refine NoPanic.normal ?_
                        go_wp2_with fail
                        exact ⟨⟨i + 1, by omega, by simp, _, _, by rw [HRT.out]; exact HNEW.out⟩, by simp [intOf]; omega⟩
                      exact AllReadyH.nil
                    exact AllReadyH.nil
                  exact AllReadyH.nil
                exact AllReadyH.nil
              refine AllReadyH.cons (o := _) rfl (fun K hK => ?_) ?_
              · (refine step_appInts (by rfl) (.tmp 50) (.tmp 56) 22 (by rfl) 3 Try.underlying22 info_i64 _ [] (by rfl) HLIT.out _ l (by rfl) HIA.out (by have := HEZ.out; simp; omega) ?_; intro v' w3 hown; obtain ⟨ba, bn, bc, rfl⟩ := (Ints.ofBuilt hown (by simpa using HEI.out)).shape; obtain ⟨bsb, hob, hnd, hfb⟩ := OInts.ofBuilt hown (by simpa using HEI.out); have HOB : Hid (OInts w3 (.slice ba bn bc) l bsb) := Lib.hid (by simpa using hob); have HFB := Lib.hid hfb; have HB3 := Lib.hid hown.below; have y0 := cellk HB3.out q2; have y1 := cellk HB3.out j0; have y3 := cellk HB3.out j1; have y4 := cellk HB3.out kx1; have y7 := cellk (below_alloc w3 (.cells #[.int .i64 r, .slice ba bn bc] 53)) y4; have HC1c := Lib.hid (HC1.out.grow HB3.out); clear hown hob hnd hfb)
                refine hK.out _ _ ?_ (fun hHeld => ?_)
                · (try dsimp only)
                  (first | exact ⟨by simpa using q2, by simpa using j0, by simpa using j1⟩ | exact ⟨by simpa using a0, by simpa using a2, by simpa using a3⟩ | exact ⟨y0, y1, y3⟩ | exact ⟨cellk (below_alloc _ _) y0, cellk (below_alloc _ _) y1, cellk (below_alloc _ _) y3⟩ | exact ⟨x0, x1, x3⟩ | exact ⟨(World.cell?_setCell_other _ _ _ _ (by intro e; have := congrArg Addr.block e; simp at this; omega)).trans x0, (World.cell?_setCell_other _ _ _ _ (by intro e; have := congrArg Addr.block e; simp at this; omega)).trans x1, (World.cell?_setCell_other _ _ _ _ (by intro e; have := congrArg Addr.block e; simp at this; omega)).trans x3⟩)
                clear hK K
                (try simp only [Act.put, List.setIfInBounds_toArray, List.set_cons_zero, List.set_cons_succ])
                refine wpAnyH_take (i := 16) (oi := _) (v := ?_) rfl (by kernel_rfl) (by kernel_rfl) (by kernel_rfl) (fun _ _ _ h => h) (Or.inl ⟨by rfl, ?_⟩) (by assumption) ?_
                rotate_left
                · (intro w hSw; (try dsimp only at hSw); go_simp <;> with_reducible rfl)
                (try simp only [Act.put, List.setIfInBounds_toArray, List.set_cons_zero, List.set_cons_succ])
                refine wpAnyH_ready (rs := [1, 17]) (by kernel_rfl) (by simp) ?_
                refine AllReadyH.cons (o := _) rfl (fun K hK => ?_) ?_
                · go_simp
                  refine hK.out _ _ ?_ (fun hHeld => ?_)
                  · (try dsimp only)
                    (first | exact ⟨by simpa using q2, by simpa using j0, by simpa using j1⟩ | exact ⟨by simpa using a0, by simpa using a2, by simpa using a3⟩ | exact ⟨y0, y1, y3⟩ | exact ⟨cellk (below_alloc _ _) y0, cellk (below_alloc _ _) y1, cellk (below_alloc _ _) y3⟩ | exact ⟨x0, x1, x3⟩ | exact ⟨(World.cell?_setCell_other _ _ _ _ (by intro e; have := congrArg Addr.block e; simp at this; omega)).trans x0, (World.cell?_setCell_other _ _ _ _ (by intro e; have := congrArg Addr.block e; simp at this; omega)).trans x1, (World.cell?_setCell_other _ _ _ _ (by intro e; have := congrArg Addr.block e; simp at this; omega)).trans x3⟩)
                  clear hK K
                  (try simp only [Act.put, List.setIfInBounds_toArray, List.set_cons_zero, List.set_cons_succ])
                  refine wpAnyH_ready (rs := [17]) (by kernel_rfl) (by simp) ?_
                  refine AllReadyH.cons (o := _) rfl (fun K hK => ?_) ?_
                  · go_simp
                    refine hK.out _ _ ?_ (fun hHeld => ?_)
                    · (try dsimp only)
                      (first | exact ⟨by simpa using q2, by simpa using j0, by simpa using j1⟩ | exact ⟨by simpa using a0, by simpa using a2, by simpa using a3⟩ | exact ⟨y0, y1, y3⟩ | exact ⟨cellk (below_alloc _ _) y0, cellk (below_alloc _ _) y1, cellk (below_alloc _ _) y3⟩ | exact ⟨x0, x1, x3⟩ | exact ⟨(World.cell?_setCell_other _ _ _ _ (by intro e; have := congrArg Addr.block e; simp at this; omega)).trans x0, (World.cell?_setCell_other _ _ _ _ (by intro e; have := congrArg Addr.block e; simp at this; omega)).trans x1, (World.cell?_setCell_other _ _ _ _ (by intro e; have := congrArg Addr.block e; simp at this; omega)).trans x3⟩)
                    clear hK K
                    (try simp only [Act.put, List.setIfInBounds_toArray, List.set_cons_zero, List.set_cons_succ])
                    refine wpAnyH_ready (rs := [18]) (by kernel_rfl) (by simp) ?_
                    refine AllReadyH.cons (o := _) rfl (fun K hK => ?_) ?_
                    · (refine step_app1D (by rfl) (.tmp 43) (.tmp 59) 30 (by rfl) 53 (.agg #[.int .i64 0, .slice none 0 0]) 2 32 Try.underlying30 info_Atom (by decide) (by decide) (by rfl) (.slice xa L.length xc) L.length cs (by rfl) (HC1c.out.grow (below_alloc _ _)) w3.heap.size [.int .i64 r, .slice ba bn bc] (by rfl) (by simp [Value.oneCell']) (by rfl) (heap_alloc_new w3 _) (by omega) ?_; intro g' cap' w4 hown' ko hbl; have z1 := ko.cell HXB.out (cellk (below_alloc w3 _) y4); have z2 := ko.frozen (o := 1) (Nat.lt_of_lt_of_le HXS.out (Nat.le_trans HB3.out.size (below_alloc w3 _).size)) HXB.out (frok (below_alloc w3 _) y4 (frok HB3.out kx1 kxf)); have x0 := ko.cell HN0.out (cellk (below_alloc w3 _) y0); have x1 := ko.cell HN1.out (cellk (below_alloc w3 _) y1); have x3 := ko.cell HN1.out (cellk (below_alloc w3 _) y3); have HNEW := Lib.hid (QInv.step HQI.out HC1.out HC2.out HB3.out (below_alloc w3 _) HOB.out HFB.out HDI.out hown' ko (fun b hb => (hbl b hb).imp id (fun e => by rw [e]; exact Nat.le_refl _))))
                      refine hK.out _ _ ?_ (fun hHeld => ?_)
                      · (try dsimp only)
                        (first | exact ⟨by simpa using q2, by simpa using j0, by simpa using j1⟩ | exact ⟨by simpa using a0, by simpa using a2, by simpa using a3⟩ | exact ⟨y0, y1, y3⟩ | exact ⟨cellk (below_alloc _ _) y0, cellk (below_alloc _ _) y1, cellk (below_alloc _ _) y3⟩ | exact ⟨x0, x1, x3⟩ | exact ⟨(World.cell?_setCell_other _ _ _ _ (by intro e; have := congrArg Addr.block e; simp at this; omega)).trans x0, (World.cell?_setCell_other _ _ _ _ (by intro e; have := congrArg Addr.block e; simp at this; omega)).trans x1, (World.cell?_setCell_other _ _ _ _ (by intro e; have := congrArg Addr.block e; simp at this; omega)).trans x3⟩)
                      clear hK K
                      (try simp only [Act.put, List.setIfInBounds_toArray, List.set_cons_zero, List.set_cons_succ])
                      refine wpAnyH_take (i := 19) (oi := _) (v := ?_) rfl (by kernel_rfl) (by kernel_rfl) (by kernel_rfl) (fun _ _ _ h => h) (Or.inl ⟨by rfl, ?_⟩) (by assumption) ?_
                      rotate_left
                      · (intro w hSw; (try dsimp only at hSw); go_simp <;> with_reducible rfl)
                      (try simp only [Act.put, List.setIfInBounds_toArray, List.set_cons_zero, List.set_cons_succ])
                      refine wpAnyH_ready (rs := [20]) (by kernel_rfl) (by simp) ?_
                      refine AllReadyH.cons (o := _) rfl (fun K hK => ?_) ?_
                      · go_simp
                        refine hK.out _ _ ?_ (fun hHeld => ?_)
                        · (try dsimp only)
                          (first | exact ⟨by simpa using q2, by simpa using j0, by simpa using j1⟩ | exact ⟨by simpa using a0, by simpa using a2, by simpa using a3⟩ | exact ⟨y0, y1, y3⟩ | exact ⟨cellk (below_alloc _ _) y0, cellk (below_alloc _ _) y1, cellk (below_alloc _ _) y3⟩ | exact ⟨x0, x1, x3⟩ | exact ⟨(World.cell?_setCell_other _ _ _ _ (by intro e; have := congrArg Addr.block e; simp at this; omega)).trans x0, (World.cell?_setCell_other _ _ _ _ (by intro e; have := congrArg Addr.block e; simp at this; omega)).trans x1, (World.cell?_setCell_other _ _ _ _ (by intro e; have := congrArg Addr.block e; simp at this; omega)).trans x3⟩)
                        clear hK K
                        (try simp only [Act.put, List.setIfInBounds_toArray, List.set_cons_zero, List.set_cons_succ])
                        refine wpAnyH_done (by kernel_rfl) ?_ _
                        refine NoPanic.normal ?_
                        go_wp2_with fail
                        exact ⟨⟨i + 1, by omega, by simp, _, _, by rw [HRT.out]; exact HNEW.out⟩, by simp [intOf]; omega⟩
                      exact AllReadyH.nil
                    exact AllReadyH.nil
                  exact AllReadyH.nil
                refine AllReadyH.cons (o := _) rfl (fun K hK => ?_) ?_
                · go_simp
                  refine hK.out _ _ ?_ (fun hHeld => ?_)
                  · (try dsimp only)
                    (first | exact ⟨by simpa using q2, by simpa using j0, by simpa using j1⟩ | exact ⟨by simpa using a0, by simpa using a2, by simpa using a3⟩ | exact ⟨y0, y1, y3⟩ | exact ⟨cellk (below_alloc _ _) y0, cellk (below_alloc _ _) y1, cellk (below_alloc _ _) y3⟩ | exact ⟨x0, x1, x3⟩ | exact ⟨(World.cell?_setCell_other _ _ _ _ (by intro e; have := congrArg Addr.block e; simp at this; omega)).trans x0, (World.cell?_setCell_other _ _ _ _ (by intro e; have := congrArg Addr.block e; simp at this; omega)).trans x1, (World.cell?_setCell_other _ _ _ _ (by intro e; have := congrArg Addr.block e; simp at this; omega)).trans x3⟩)
                  clear hK K
                  (try simp only [Act.put, List.setIfInBounds_toArray, List.set_cons_zero, List.set_cons_succ])
                  refine wpAnyH_ready (rs := [1]) (by kernel_rfl) (by simp) ?_
                  refine AllReadyH.cons (o := _) rfl (fun K hK => ?_) ?_
                  · go_simp
                    refine hK.out _ _ ?_ (fun hHeld => ?_)
                    · (try dsimp only)
                      (first | exact ⟨by simpa using q2, by simpa using j0, by simpa using j1⟩ | exact ⟨by simpa using a0, by simpa using a2, by simpa using a3⟩ | exact ⟨y0, y1, y3⟩ | exact ⟨cellk (below_alloc _ _) y0, cellk (below_alloc _ _) y1, cellk (below_alloc _ _) y3⟩ | exact ⟨x0, x1, x3⟩ | exact ⟨(World.cell?_setCell_other _ _ _ _ (by intro e; have := congrArg Addr.block e; simp at this; omega)).trans x0, (World.cell?_setCell_other _ _ _ _ (by intro e; have := congrArg Addr.block e; simp at this; omega)).trans x1, (World.cell?_setCell_other _ _ _ _ (by intro e; have := congrArg Addr.block e; simp at this; omega)).trans x3⟩)
                    clear hK K
                    (try simp only [Act.put, List.setIfInBounds_toArray, List.set_cons_zero, List.set_cons_succ])
                    refine wpAnyH_ready (rs := [18]) (by kernel_rfl) (by simp) ?_
                    refine AllReadyH.cons (o := _) rfl (fun K hK => ?_) ?_
                    · (refine step_app1D (by rfl) (.tmp 43) (.tmp 59) 30 (by rfl) 53 (.agg #[.int .i64 0, .slice none 0 0]) 2 32 Try.underlying30 info_Atom (by decide) (by decide) (by rfl) (.slice xa L.length xc) L.length cs (by rfl) (HC1c.out.grow (below_alloc _ _)) w3.heap.size [.int .i64 r, .slice ba bn bc] (by rfl) (by simp [Value.oneCell']) (by rfl) (heap_alloc_new w3 _) (by omega) ?_; intro g' cap' w4 hown' ko hbl; have z1 := ko.cell HXB.out (cellk (below_alloc w3 _) y4); have z2 := ko.frozen (o := 1) (Nat.lt_of_lt_of_le HXS.out (Nat.le_trans HB3.out.size (below_alloc w3 _).size)) HXB.out (frok (below_alloc w3 _) y4 (frok HB3.out kx1 kxf)); have x0 := ko.cell HN0.out (cellk (below_alloc w3 _) y0); have x1 := ko.cell HN1.out (cellk (below_alloc w3 _) y1); have x3 := ko.cell HN1.out (cellk (below_alloc w3 _) y3); have HNEW := Lib.hid (QInv.step HQI.out HC1.out HC2.out HB3.out (below_alloc w3 _) HOB.out HFB.out HDI.out hown' ko (fun b hb => (hbl b hb).imp id (fun e => by rw [e]; exact Nat.le_refl _))))
                      refine hK.out _ _ ?_ (fun hHeld => ?_)
                      · (try dsimp only)
                        (first | exact ⟨by simpa using q2, by simpa using j0, by simpa using j1⟩ | exact ⟨by simpa using a0, by simpa using a2, by simpa using a3⟩ | exact ⟨y0, y1, y3⟩ | exact ⟨cellk (below_alloc _ _) y0, cellk (below_alloc _ _) y1, cellk (below_alloc _ _) y3⟩ | exact ⟨x0, x1, x3⟩ | exact ⟨(World.cell?_setCell_other _ _ _ _ (by intro e; have := congrArg Addr.block e; simp at this; omega)).trans x0, (World.cell?_setCell_other _ _ _ _ (by intro e; have := congrArg Addr.block e; simp at this; omega)).trans x1, (World.cell?_setCell_other _ _ _ _ (by intro e; have := congrArg Addr.block e; simp at this; omega)).trans x3⟩)
                      clear hK K
                      (try simp only [Act.put, List.setIfInBounds_toArray, List.set_cons_zero, List.set_cons_succ])
                      refine wpAnyH_take (i := 19) (oi := _) (v := ?_) rfl (by kernel_rfl) (by kernel_rfl) (by kernel_rfl) (fun _ _ _ h => h) (Or.inl ⟨by rfl, ?_⟩) (by assumption) ?_
                      rotate_left
                      · (intro w hSw; (try dsimp only at hSw); go_simp <;> with_reducible rfl)
                      (try simp only [Act.put, List.setIfInBounds_toArray, List.set_cons_zero, List.set_cons_succ])
                      refine wpAnyH_ready (rs := [20]) (by kernel_rfl) (by simp) ?_
                      refine AllReadyH.cons (o := _) rfl (fun K hK => ?_) ?_
                      · go_simp
                        refine hK.out _ _ ?_ (fun hHeld => ?_)
                        · (try dsimp only)
                          (first | exact ⟨by simpa using q2, by simpa using j0, by simpa using j1⟩ | exact ⟨by simpa using a0, by simpa using a2, by simpa using a3⟩ | exact ⟨y0, y1, y3⟩ | exact ⟨cellk (below_alloc _ _) y0, cellk (below_alloc _ _) y1, cellk (below_alloc _ _) y3⟩ | exact ⟨x0, x1, x3⟩ | exact ⟨(World.cell?_setCell_other _ _ _ _ (by intro e; have := congrArg Addr.block e; simp at this; omega)).trans x0, (World.cell?_setCell_other _ _ _ _ (by intro e; have := congrArg Addr.block e; simp at this; omega)).trans x1, (World.cell?_setCell_other _ _ _ _ (by intro e; have := congrArg Addr.block e; simp at this; omega)).trans x3⟩)
                        clear hK K
                        (try simp only [Act.put, List.setIfInBounds_toArray, List.set_cons_zero, List.set_cons_succ])
                        refine wpAnyH_done (by kernel_rfl) ?_ _
                        refine NoPanic.normal ?_
                        go_wp2_with fail
                        exact ⟨⟨i + 1, by omega, by simp, _, _, by rw [HRT.out]; exact HNEW.out⟩, by simp [intOf]; omega⟩
                      exact AllReadyH.nil
                    exact AllReadyH.nil
                  exact AllReadyH.nil
                exact AllReadyH.nil
              exact AllReadyH.nil
            exact AllReadyH.nil
    · obtain rfl : i = n := by omega
      have hT : d.2.take i = d.2 := List.take_of_length_le (by rw [HL.out]; exact Nat.le_refl _)
      have HBr := Lib.hid (bnext HB2.out hbq)
      have k0 := cellk hbq KK0.out
      have k1 := cellk hbq KK1.out
      have f0 := frok hbq KK0.out KF0.out
      have f1 := frok hbq KK1.out KF1.out
      have HSLr := Lib.hid (HSL2.out.below (by have := HSZ.out; omega) hbq)
      obtain ⟨h5, h6⟩ := HQI.out.done HOH.out HFH.out (by have := HSZ.out; omega) (OnlyAt.refl [w.heap.size] wO)
      rw [hT] at h6
      obtain ⟨_, _, _, e6, h6⟩ := h6
      cases e6
      have HXR : Hid (RdQuery wO (.agg #[.slice va vn vc, .slice xa xn xc]) (ddQ d)) := ⟨_, _, _, _, _, _, rfl, h5, h6⟩
      clear h5 h6 hba hxs hbq
      go_wp2_with fail
      have hk : OnlyAt [w.heap.size + 1] wO ((wO.setCell ⟨w.heap.size + 1, 0, none⟩ (.slice va vn vc)).setCell ⟨w.heap.size + 1, 1, none⟩ (.slice xa xn xc)) := (OnlyAt.setCell wO _ _ _).same (OnlyAt.setCell _ _ _ _)
      exact bodyPost_ret (v := .agg #[.slice va vn vc, .slice xa xn xc]) (by simp [results, Try.results25, go_sem, k0, k1]) rfl ⟨_, _, _, _, _, _, rfl, HXR.out.offS hk HSLr.out, OnlyAt.below HBr.out hk (fun x hx => by simp at hx; omega)⟩
end Go.Proofs.Ytdbeogmabcbdoaa
