/- Merged of S11t, S11u, S11d, S11w. -/
import Derived.Test.YtnbljidjbknleaaGreatS5all
import Derived.Test.YtnbljidjbknleaaGreatBox3
import Derived.Test.YtnbljidjbknleaaGreatS11a
import Derived.Test.YtnbljidjbknleaaGreatI6cs
import Derived.Deep.RegionHeld3
import Derived.Test.YtnbljidjbknleaaGreatS8fr
import Derived.Test.YtnbljidjbknleaaGreatSfineV
/-! S11t -/
namespace Go.Proofs.YtnbljidjbknleaaGreat
open Go Go.Sort Go.RowKit
set_option linter.unusedVariables false
set_option linter.unusedSimpArgs false

def twX (v : Int) (m k : Nat) (x : Int) : Int := if x = v ∧ m / 2 ^ k % 2 = 1 then 99 else x
def twA (v : Int) (m : Nat) (l : List Int) : List Int := l.mapIdx (twX v m)
def twF (v : Int) (m : Nat) (f : AtomD) : AtomD := (f.1, twA v m f.2)
def twRow (v : Int) (f : AtomD) (o : List AtomD) (n : Nat) : List AtomD := (List.range n).foldl (fun o m => putF o (twF v m f)) o
def twN (db : List AtomD) (v : Int) (i : Nat) : List AtomD := (db.take i).foldl (fun o f => twRow v f o 8) db
theorem twRow_succ (v : Int) (f : AtomD) (o : List AtomD) (n : Nat) : twRow v f o (n + 1) = putF (twRow v f o n) (twF v n f) := by
  unfold twRow; rw [List.range_succ, List.foldl_append]; rfl
theorem twN_succ {db : List AtomD} {v : Int} {i : Nat} {f : AtomD} (h : db[i]? = some f) : twN db v (i + 1) = twRow v f (twN db v i) 8 := by
  obtain ⟨hi, rfl⟩ := List.getElem?_eq_some_iff.1 h
  unfold twN; rw [List.take_succ_eq_append_getElem hi, List.foldl_append]; simp only [List.foldl_cons, List.foldl_nil]
def twTo (l : List Int) (v : Int) (m k : Nat) : List Int := (twA v m l).take k ++ l.drop k
theorem twA_len (v : Int) (m : Nat) (l : List Int) : (twA v m l).length = l.length := by unfold twA; simp
theorem twTo_len {l : List Int} {v : Int} {m k : Nat} (h : k ≤ l.length) : (twTo l v m k).length = l.length := by
  unfold twTo; rw [List.length_append, List.length_take, List.length_drop, twA_len]; omega
theorem twTo_at {l : List Int} {v : Int} {m k : Nat} (h : k < l.length) : (twTo l v m k).getD k 0 = l.getD k 0 := by
  unfold twTo
  rw [List.getD_eq_getElem?_getD, List.getElem?_append_right (by rw [List.length_take, twA_len]; omega), List.length_take, twA_len, Nat.min_eq_left (by omega), Nat.sub_self, List.getElem?_drop, Nat.add_zero, ← List.getD_eq_getElem?_getD]
theorem twTo_set {l : List Int} {v : Int} {m k : Nat} (h : k < l.length) : (twTo l v m k).set k (twX v m k (l.getD k 0)) = twTo l v m (k + 1) := by
  have hg : l.getD k 0 = l[k] := by simp [List.getD, List.getElem?_eq_getElem h]
  unfold twTo
  rw [List.set_append_right _ _ (by rw [List.length_take, twA_len]; omega), List.length_take, twA_len, Nat.min_eq_left (by omega), Nat.sub_self, List.drop_eq_getElem_cons h, List.set_cons_zero, List.take_succ_eq_append_getElem (l := twA v m l) (by rw [twA_len]; exact h), hg, List.append_assoc]
  unfold twA
  rw [List.getElem_mapIdx]
  rfl
theorem twTo_same {l : List Int} {v : Int} {m k : Nat} (h : k < l.length) (hn : twX v m k (l.getD k 0) = l.getD k 0) : twTo l v m k = twTo l v m (k + 1) := by
  rw [← twTo_set h, hn, ← twTo_at (v := v) (m := m) h]
  refine (List.ext_getElem (by simp) (fun j h1 h2 => ?_))
  rw [List.getElem_set]
  split
  · rename_i e; subst e; rw [List.getD_eq_getElem?_getD, List.getElem?_eq_getElem h1]; rfl
  · rfl
theorem OInts.set11 {w : World} {b off n c : Nat} {l : List Int} {bs : List Nat} (h : OInts w (.slice (some ⟨b, off, none⟩) n c) l bs) {j : Nat} (hj : j < n) {y : Int} (hy : inI y) : OInts (w.setCell ⟨b, off + j, none⟩ (.int .i64 y)) (.slice (some ⟨b, off, none⟩) n c) (l.set j y) bs := by
  obtain ⟨⟨hin, hrep⟩, hown⟩ := h
  refine ⟨⟨fun x hx => ?_, ?_⟩, ?_⟩
  · rcases List.mem_or_eq_of_mem_set hx with h | h
    · exact hin x h
    · subst h; exact hy
  · rcases hrep with ⟨a, cap, e, _, rfl⟩ | ⟨b', off', len, cap, e, hl, h1, h2, hlt, hc⟩
    · cases e; omega
    · cases e
      refine .inr ⟨b, off, n, c, rfl, by simpa using hl, h1, h2, by simpa [World.setCell] using hlt, fun i hi => ?_⟩
      by_cases he : i = j
      · subst he
        rw [World.cell?_setCell_same _ _ _ (hc i hi)]
        congr 2
        rw [List.getD_eq_getElem?_getD, List.getElem?_set_self (by omega)]; rfl
      · rw [World.cell?_setCell_other _ _ _ _ (by intro e; simp at e <;> omega), hc i hi]
        congr 2
        rw [List.getD_eq_getElem?_getD, List.getD_eq_getElem?_getD, List.getElem?_set_ne (Ne.symm he)]
  · rcases hown with ⟨a, c', e, rfl⟩ | ⟨b', off', n', c', e, hn, rfl, hf⟩
    · cases e; omega
    · cases e
      exact .inr ⟨b, off, n, c, rfl, hn, rfl, fun i hi => by rw [World.frozen?_setCell]; exact hf i hi⟩
theorem twRow_all {P : AtomD → Prop} {v : Int} {f : AtomD} {o : List AtomD} (ho : ∀ x ∈ o, P x) (hf : ∀ m, P (twF v m f)) : ∀ n, ∀ x ∈ twRow v f o n, P x := by
  intro n
  induction n with
  | zero => exact ho
  | succ n ih =>
    intro x hx
    rw [twRow_succ] at hx
    rcases putF_mem _ _ x hx with h | h
    · exact ih x h
    · subst h; exact hf n
theorem twRow_len (v : Int) (f : AtomD) (o : List AtomD) : ∀ n, (twRow v f o n).length ≤ o.length + n := by
  intro n
  induction n with
  | zero => exact Nat.le_refl _
  | succ n ih => rw [twRow_succ]; have := putF_len (twRow v f o n) (twF v n f); omega
theorem twN_3 {db : List AtomD} (v : Int) (h : ∀ x ∈ db, x.2.length ≤ 3) : ∀ i, i ≤ db.length → (∀ x ∈ twN db v i, x.2.length ≤ 3) ∧ (twN db v i).length ≤ db.length + i * 8 := by
  intro i
  induction i with
  | zero => intro _; unfold twN; exact ⟨by simpa using h, by simp⟩
  | succ i ih =>
    intro hi
    obtain ⟨h1, h2⟩ := ih (by omega)
    have hg : db[i]? = some (db[i]'(by omega)) := List.getElem?_eq_getElem (by omega)
    rw [twN_succ hg]
    refine ⟨twRow_all h1 (fun m => ?_) 8, ?_⟩
    · have : (twF v m (db[i]'(by omega))).2.length = (db[i]'(by omega)).2.length := twA_len _ _ _
      rw [this]; exact h _ (List.getElem_mem _)
    · have := twRow_len v (db[i]'(by omega)) (twN db v i) 8
      omega
end Go.Proofs.YtnbljidjbknleaaGreat

/-! S11u -/
namespace Go.Proofs.YtnbljidjbknleaaGreat
open Go Go.Sort Go.RowKit
set_option linter.unusedVariables false
set_option linter.unusedSimpArgs false

theorem bit11 (m : Nat) (hm : m < 8) (k : Nat) (hk : k < 3) : bits BinOp.and IntKind.i64 ((m : Int) / 2 ^ k) 1 = ((m / 2 ^ k % 2 : Nat) : Int) := by
  have : ∀ m : Nat, m < 8 → ∀ k : Nat, k < 3 → bits BinOp.and IntKind.i64 ((m : Int) / 2 ^ k) 1 = ((m / 2 ^ k % 2 : Nat) : Int) := by decide
  exact this m hm k hk

set_option maxRecDepth 100000 in
set_option maxHeartbeats 2000000 in
theorem sTwins_any (w : World) (v : Value) (db : List AtomD) (x : Int) (h : RdAtomS w v db) (h3 : ∀ f ∈ db, f.2.length ≤ 3) (hz : db.length ≤ 100000) :
    Calls Tryz.prog 22 #[v, .int .i64 x] w (fun e w' => ∃ r, e = .returned r ∧ RdAtomS w' r (twN db x db.length) ∧ Below w.heap.size w w') := by
  have HALL := Lib.hid (sAll5_any w v db h (fun f hf => by have := h3 f hf; omega) (by omega))
  have HCO := Lib.hid (fun W u f (hu : RdAtom W u f) (hf : f.2.length ≤ 3) => sCopy5_any W u f hu (by omega))
  have HPU := Lib.hid (fun W u uf l f (hu : RdAtomS W u l) (hf : RdAtom W uf f) (h1 : ∀ g ∈ l, g.2.length ≤ 3) (h2 : l.length ≤ 1000000) (h4 : f.2.length ≤ 3) => sPut5_any W u uf l f hu hf (fun g hg => by have := h1 g hg; omega) (by omega) (by omega))
  have HT3 := Lib.hid (fun i hi => twN_3 (db := db) x h3 i hi)
  have HD3 := Lib.hid h3
  obtain ⟨a, n, c, rfl, hd⟩ := h
  obtain ⟨hl, hn, hm, hc⟩ := hd.at
  unfold maxLen at hm
  have HDC := Lib.hid hc
  have HDL := Lib.hid hl
  have hnz : n ≤ 100000 := by omega
  clear hd hc hz h3
  rw [hl]
  clear hl
  go_enter Tryz.func22, Tryz.ntmps22
  go_wp2_with fail
  refine HALL.out.mono ?_
  rintro e w1 ⟨o1, bs1, rfl, ho1, _, hb1⟩
  have HO1 := Lib.hid ho1.rd
  have HB1 := Lib.hid hb1
  clear ho1 hb1 HALL
  go_wp2_with fail
  go_loopw [5, 6] (fun ov iv wr => ∃ i : Nat, i ≤ n ∧ iv = .int .i64 i ∧ RdAtomS wr ov (twN db x i) ∧ Below w.heap.size w wr) (fun _ iv _ => n - (intOf iv).toNat)
  case atStart => exact ⟨0, by omega, rfl, HO1.out, HB1.out⟩
  case round =>
    obtain ⟨wi, hwi⟩ : ∃ q, q = wr := ⟨_, rfl⟩
    subst hwi
    obtain ⟨i, hi, rfl, ho, hb⟩ := hrel
    have HO := Lib.hid ho
    have HB := Lib.hid hb
    clear ho hb
    by_cases hlti : i < n
    · obtain ⟨b, off, rfl, hdw, hdc⟩ := HDC.out (by omega)
      obtain ⟨f, hf⟩ : ∃ e, db[i]? = some e := ⟨db[i]'(by rw [HDL.out]; exact hlti), List.getElem?_eq_getElem (by rw [HDL.out]; exact hlti)⟩
      obtain ⟨fa, fm, fc, fc0, fc1, finI, fints⟩ := atomAt (n := n) hdc i f hf
      have HF0 := Lib.hid fc0
      have HF1 := Lib.hid fc1
      have HFI := Lib.hid finI
      have HFT := Lib.hid fints
      have HSUC := Lib.hid (twN_succ (v := x) hf)
      have hf3 : f.2.length ≤ 3 := HD3.out f (List.mem_of_getElem? hf)
      have HF3 := Lib.hid hf3
      have ht3 := HT3.out i (by rw [HDL.out]; exact hi)
      have HTR3 : Hid (∀ m, ∀ g ∈ twRow x f (twN db x i) m, g.2.length ≤ 3) := Lib.hid (fun m => twRow_all (P := fun g => g.2.length ≤ 3) ht3.1 (fun m => by have : (twF x m f).2.length = f.2.length := twA_len _ _ _; omega) m)
      have HTRL : Hid (∀ m, m ≤ 8 → (twRow x f (twN db x i) m).length ≤ 1000000) := Lib.hid (fun m hm => by have := twRow_len x f (twN db x i) m; have := ht3.2; have := HDL.out; omega)
      have hi0 : (0 : Int) ≤ i := by omega
      have hi1 : (i : Int) < n := by omega
      clear hdw hdc fc0 fc1 finI fints hf ht3 hf3
      go_wp2_with fail
      go_loopw [5, 7] (fun ov mv wr => ∃ m : Nat, m ≤ 8 ∧ mv = .int .i64 m ∧ RdAtomS wr ov (twRow x f (twN db x i) m) ∧ Below w.heap.size w wr) (fun _ mv _ => 8 - (intOf mv).toNat)
      case atStart => exact ⟨0, by omega, rfl, HO.out, HB.out⟩
      case round =>
        obtain ⟨wm, hwm⟩ : ∃ q, q = wr := ⟨_, rfl⟩
        subst hwm
        obtain ⟨m, hm8, rfl, ho, hb⟩ := hrel
        have HOM := Lib.hid ho
        have HBM := Lib.hid hb
        have z0 := cellk hb HF0.out
        have z1 := cellk hb HF1.out
        clear ho hb
        by_cases hltm : m < 8
        · have HCOM := Lib.hid (HCO.out wm (.agg #[.int .i64 f.1, .slice fa fm fc]) f ⟨fa, fm, fc, rfl, HFI.out, HFT.out.below HBM.out⟩ HF3.out)
          go_wp2_with fail
          refine HCOM.out.mono ?_
          rintro e w2 ⟨u2, bs, rfl, ⟨va, vn, vc, rfl, hri, hoi⟩, hfr, hb2⟩
          have hvl : f.2.length = vn := by obtain ⟨_, _, _, e, hl, _⟩ := hoi.1.cases; cases e; exact hl
          obtain ⟨w3, hw3⟩ : ∃ q, q = w2.alloc (.cells #[.int .i64 f.1, .slice va vn vc] 62) := ⟨_, rfl⟩
          have hb3 : Below w2.heap.size w2 w3 := by rw [hw3]; exact below_alloc w2 _
          obtain ⟨FB, hFB⟩ : ∃ q, q = w2.heap.size := ⟨_, rfl⟩
          have A0 : Hid (w3.cell? ⟨FB, 0, none⟩ = some (.int .i64 f.1)) := Lib.hid (by rw [hw3, hFB]; simp)
          have A1 : Hid (w3.cell? ⟨FB, 1, none⟩ = some (.slice va vn vc)) := Lib.hid (by rw [hw3, hFB]; simp)
          have HOI := Lib.hid (hoi.below hb3)
          have HNB : Hid (FB ∉ bs) := Lib.hid (fun hm => by have := (hfr.2 _ hm).2; omega)
          have HLO := Lib.hid hfr.lo
          have HB3 := Lib.hid (bnext hb2 hb3)
          have HVL := Lib.hid hvl
          have hv3 : vn ≤ 3 := by have := HF3.out; omega
          have HW3 := Lib.hid hw3
          have HFBE := Lib.hid hFB
          clear hb2 hb3 hfr hoi hvl hw3 hFB z0 z1 hri
          go_wp2_with fail
          rw [← HW3.out, ← HFBE.out]
          clear HW3 HFBE
          go_loopw [9] (fun kv wr => ∃ k : Nat, k ≤ vn ∧ kv = .int .i64 k ∧ wr.cell? ⟨FB, 0, none⟩ = some (.int .i64 f.1) ∧ wr.cell? ⟨FB, 1, none⟩ = some (.slice va vn vc) ∧ OInts wr (.slice va vn vc) (twTo f.2 x m k) bs ∧ Below wm.heap.size wm wr) (fun kv _ => vn - (intOf kv).toNat)
          case atStart => exact ⟨0, by omega, rfl, A0.out, A1.out, by simpa [twTo] using HOI.out, HB3.out⟩
          case round =>
            obtain ⟨wk, hwk⟩ : ∃ q, q = wr := ⟨_, rfl⟩
            subst hwk
            obtain ⟨k, hk, rfl, g0, g1, hoi, hb⟩ := hrel
            have HOK := Lib.hid hoi
            have HBK := Lib.hid hb
            by_cases hltk : k < vn
            · have hkl : k < f.2.length := by rw [HVL.out]; exact hltk
              obtain ⟨_, _, _, e1, _, _, hmx, hcx⟩ := hoi.1.cases
              cases e1
              obtain ⟨eb, eo, rfl, _, hcx⟩ := hcx (by omega)
              have c1 := hcx k hltk
              rw [twTo_at hkl] at c1
              have HSET := Lib.hid (twTo_set (v := x) (m := m) hkl)
              have HSAM := Lib.hid (fun hn => twTo_same (v := x) (m := m) hkl hn)
              have hk0 : (0 : Int) ≤ k := by omega
              have hk1 : (k : Int) < vn := by omega
              have hk2 : (k : Int) ≤ 64 := by omega
              have z2 : wk.frozen? ⟨eb, eo + k, none⟩ = false := by
                rcases HOK.out.2 with ⟨_, _, e, _⟩ | ⟨_, _, _, _, e, _, _, hf⟩
                · cases e; omega
                · cases e; exact hf k hltk
              have HEB : Hid (bs = [eb]) := by
                rcases HOK.out.2 with ⟨_, _, e, _⟩ | ⟨_, _, _, _, e, _, hbs, _⟩
                · cases e; omega
                · cases e; exact hbs
              unfold maxLen at hmx
              clear hcx hoi hb hkl
              generalize f.2.getD k 0 = y at *
              by_cases hxy : y = x
              · have hbt : bits BinOp.and IntKind.i64 ((m : Int) / 2 ^ k) 1 = ((m / 2 ^ k % 2 : Nat) : Int) := bit11 m (by omega) k (by omega)
                by_cases hbit : m / 2 ^ k % 2 = 1
                · have qb : (bits BinOp.and IntKind.i64 ((m : Int) / 2 ^ k) 1 == 1) = true := by rw [hbt, hbit]; rfl
                  have HE : Hid ((twTo f.2 x m k).set k 99 = twTo f.2 x m (k + 1)) := by
                    have := HSET.out
                    unfold twX at this
                    rwa [if_pos ⟨hxy, hbit⟩] at this
                  have HST := Lib.hid (HOK.out.set11 hltk (y := 99) (by unfold inI; omega))
                  rw [HE.out] at HST
                  have hk9 : OnlyAt [eb] wk (wk.setCell ⟨eb, eo + k, none⟩ (.int .i64 99)) := OnlyAt.setCell _ _ _ _
                  have hne : FB ∉ [eb] := by rw [← HEB.out]; exact HNB.out
                  have G0 := Lib.hid (hk9.cell hne g0)
                  have G1 := Lib.hid (hk9.cell hne g1)
                  have GB := Lib.hid (OnlyAt.below HBK.out hk9 (fun z hz => HLO.out z (by rw [HEB.out]; exact hz)))
                  subst hxy
                  clear hbt hbit HSET HSAM hk9 hne HE
                  go_wp2_with fail
                  exact ⟨⟨k + 1, by omega, by simp, G0.out, G1.out, HST.out, GB.out⟩, by simp [intOf]; omega⟩
                · have qb : (bits BinOp.and IntKind.i64 ((m : Int) / 2 ^ k) 1 == 1) = false := by
                    rw [hbt]; exact beq_eq_false_iff_ne.2 (by omega)
                  have HE := Lib.hid (HSAM.out (by unfold twX; rw [if_neg (fun h => hbit h.2)]))
                  subst hxy
                  clear hbt hbit HSET HSAM
                  go_wp2_with fail
                  exact ⟨⟨k + 1, by omega, by simp, g0, g1, by rw [← HE.out]; exact HOK.out, HBK.out⟩, by simp [intOf]; omega⟩
              · have q : (y == x) = false := beq_eq_false_iff_ne.2 hxy
                have HE := Lib.hid (HSAM.out (by unfold twX; rw [if_neg (fun h => hxy h.1)]))
                clear hxy HSAM HSET
                go_wp2_with fail
                exact ⟨⟨k + 1, by omega, by simp, g0, g1, by rw [← HE.out]; exact HOK.out, HBK.out⟩, by simp [intOf]; omega⟩
            · obtain rfl : k = vn := by omega
              have e : twTo f.2 x m k = twA x m f.2 := by unfold twTo; rw [List.take_of_length_le (by rw [twA_len, HVL.out]; exact Nat.le_refl _), List.drop_eq_nil_of_le (by rw [HVL.out]; exact Nat.le_refl _), List.append_nil]
              rw [e] at hoi
              have HPUM := Lib.hid (HPU.out wk _ (.agg #[.int .i64 f.1, .slice va k vc]) _ (twF x m f) (RdAtomS.below HOM.out hb) ⟨va, k, vc, rfl, HFI.out, hoi.1⟩ (HTR3.out m) (HTRL.out m hm8) (by have : (twF x m f).2.length = f.2.length := twA_len _ _ _; have := HF3.out; omega))
              clear hoi hb e
              go_wp2_with fail
              refine HPUM.out.mono ?_
              rintro e w5 ⟨o5, bs5, rfl, ho5, _, hb5⟩
              have HR5 : Hid (RdAtomS w5 o5 (twRow x f (twN db x i) (m + 1))) := by rw [twRow_succ]; exact Lib.hid ho5.rd
              have HB5 := Lib.hid (bnext HBM.out (bnext HBK.out hb5))
              clear ho5 hb5 g0 g1
              go_wp2_with fail
              exact ⟨⟨m + 1, by omega, by simp, HR5.out, HB5.out⟩, by simp [intOf]; omega⟩
        · obtain rfl : m = 8 := by omega
          go_wp2_with fail
          exact ⟨⟨i + 1, by omega, by simp, by rw [HSUC.out]; exact HOM.out, HBM.out⟩, by simp [intOf]; omega⟩
    · obtain rfl : i = n := by omega
      go_wp2_with fail
      go_ret
      exact ⟨_, rfl, HO.out, HB.out⟩
end Go.Proofs.YtnbljidjbknleaaGreat

/-! S11d -/
namespace Go.Proofs.YtnbljidjbknleaaGreat
open Go Go.Sort Go.RowKit
set_option linter.unusedVariables false
set_option linter.unusedSimpArgs false

def difB (s : List Int) (a b : QueryD) (db : List AtomD) : Bool := isDbB s db && !decide (countsN s a db = countsN s b db)

set_option maxRecDepth 100000 in
set_option maxHeartbeats 8000000 in
theorem sDiffer_any (w : World) (vs va vb vd : Value) (s : List Int) (da db : QueryD) (l : List AtomD) (hvs : RdSchema w vs s) (ha : RdQuery w va da) (hb : RdQuery w vb db) (hd : RdAtomS w vd l) (h1 : sizeQuery da ≤ 1048576) (h2 : sizeQuery db ≤ 1048576) :
    Calls Tryz.prog 21 #[vs, va, vb, vd] w (GaveBool w (difB s da db l)) := by
  have HID := Lib.hid (fun W (h : Below w.heap.size w W) => sIsDb_any W vs vd s l (RdSchema.below hvs h) (RdAtomS.below hd h))
  have HCA := Lib.hid (fun W (h : Below w.heap.size w W) => sCountAnswers_any W vs va vd s da l (RdSchema.below hvs h) (RdQuery.below ha h) (RdAtomS.below hd h) (by unfold sizeQuery at h1; omega) (by unfold sizeQuery at h1; omega))
  have HCB := Lib.hid (fun W (h : Below w.heap.size w W) => sCountAnswers_any W vs vb vd s db l (RdSchema.below hvs h) (RdQuery.below hb h) (RdAtomS.below hd h) (by unfold sizeQuery at h2; omega) (by unfold sizeQuery at h2; omega))
  have HSM := Lib.hid (fun W v v' (h : RdCountedS W v (countsN s da l)) (h' : RdCountedS W v' (countsN s db l)) => sSameCounts_any W v v' _ _ h h')
  obtain ⟨B, hB⟩ : ∃ B, B = difB s da db l := ⟨_, rfl⟩
  rw [← hB]
  unfold difB at hB
  obtain ⟨p, hp⟩ : ∃ p, isDbB s l = p := ⟨_, rfl⟩
  obtain ⟨q, hq⟩ : ∃ q, decide (countsN s da l = countsN s db l) = q := ⟨_, rfl⟩
  rw [hp, hq] at hB
  rw [hp] at HID
  rw [hq] at HSM
  have HBE := Lib.hid hB
  clear hB hp hq h1 h2
  obtain ⟨sa, sn, sc, rfl, hs⟩ := hvs
  obtain ⟨ka, kn, kc, rfl, hd⟩ := hd
  obtain ⟨a0, h0, c0, a, n, c, rfl, hi, ha⟩ := ha
  obtain ⟨b0, g0, d0, b, m, k, rfl, hj, hb⟩ := hb
  have hb0 : ∀ a b c, Below w.heap.size w (((w.alloc a).alloc b).alloc c) := fun a b c => (((Below.refl _ _).alloc (Nat.le_refl _) _).alloc (by simp) _).alloc (by simp; omega) _
  have HB0 := Lib.hid hb0
  clear hs hd hi ha hj hb hb0
  go_enter Tryz.func21, Tryz.ntmps21
  go_upto_region 1 with fail
  obtain ⟨W, hW⟩ : ∃ W, W = ((w.alloc (.cells #[.slice sa sn sc] 33)).alloc (.cells #[.slice a0 h0 c0, .slice a n c] 37)).alloc (.cells #[.slice b0 g0 d0, .slice b m k] 37) := ⟨_, rfl⟩
  have HBW : Hid (Below w.heap.size w W) := by rw [hW]; exact HB0.out _ _ _
  have q0 : W.cell? ⟨w.heap.size, 0, none⟩ = some (.slice sa sn sc) := by rw [hW]; exact box1 w _ _ _ _ 0 _ rfl
  have q1 : W.cell? ⟨w.heap.size + 1, 0, none⟩ = some (.slice a0 h0 c0) := by rw [hW]; exact box2 w _ _ _ _ 0 _ rfl
  have q2 : W.cell? ⟨w.heap.size + 1, 1, none⟩ = some (.slice a n c) := by rw [hW]; exact box2 w _ _ _ _ 1 _ rfl
  have q3 : W.cell? ⟨w.heap.size + 1 + 1, 0, none⟩ = some (.slice b0 g0 d0) := by rw [hW]; exact box3 w _ _ _ _ 0 _ rfl
  have q4 : W.cell? ⟨w.heap.size + 1 + 1, 1, none⟩ = some (.slice b m k) := by rw [hW]; exact box3 w _ _ _ _ 1 _ rfl
  rw [← hW]
  clear hW
  replace HID := Lib.hid (fun W' (h : Below W.heap.size W W') => HID.out W' (bnext HBW.out h))
  replace HCA := Lib.hid (fun W' (h : Below W.heap.size W W') => HCA.out W' (bnext HBW.out h))
  replace HCB := Lib.hid (fun W' (h : Below W.heap.size W W') => HCB.out W' (bnext HBW.out h))
  cases p with
  | false =>
    have HF : Hid (B = false) := HBE.out
    have hIQ := Lib.hid (fun dn os => HID.out (grow (redrawn W dn) os) (below_regrown W dn os))
    have g1 := cell_regrown (w := W) q0
    have g2 := cell_regrown (w := W) q1
    have g3 := cell_regrown (w := W) q2
    have g4 := cell_regrown (w := W) q3
    have g5 := cell_regrown (w := W) q4
    clear HCA HCB HSM HBE
    go_wp2_with fail
    refine wp_region_quiet_below (by kernel_rfl) (by kernel_rfl) ?_
    repeat (any_goals (first | go_big_quiet_step ((go_at_call 42; exact Calls.regrown_of (hIQ.out _ _))) | quiet_step ((go_at_call 42; exact Calls.regrown_of (hIQ.out _ _)))))
    refine wpQuiet_nil ?_
    intro _ hw'
    obtain ⟨⟨dq, osq⟩, hw''⟩ := hw'
    subst hw''
    have HRG := Lib.hid (below_regrown W dq osq)
    clear g1 g2 g3 g4 g5
    go_wp2_with fail
    go_ret
    exact ⟨ret_b (by first | exact HF.out.symm | (rw [HF.out])), bnext HBW.out HRG.out⟩
  | true =>
    have HT : Hid (B = !q) := HBE.out.trans (by simp)
    clear HBE
    go_region_held3 (fun w' => w'.cell? ⟨w.heap.size, 0, none⟩ = some (.slice sa sn sc) ∧ w'.cell? ⟨w.heap.size + 1, 0, none⟩ = some (.slice a0 h0 c0) ∧ w'.cell? ⟨w.heap.size + 1, 1, none⟩ = some (.slice a n c) ∧ w'.cell? ⟨w.heap.size + 1 + 1, 0, none⟩ = some (.slice b0 g0 d0) ∧ w'.cell? ⟨w.heap.size + 1 + 1, 1, none⟩ = some (.slice b m k) ∧ Below W.heap.size W w')
      (first | assumption | exact ⟨by simpa using q0, by simpa using q1, by simpa using q2, by simpa using q3, by simpa using q4, (Below.refl _ _).drew⟩ | exact ⟨f0, f1, f2, f3, f4, gB⟩)
      (first
        | (go_at_call 42; (try go_split_ands); refine (HID.out _ (by assumption)).mono ?_; rintro e wd ⟨rfl, hbd⟩; have f0 : wd.cell? ⟨w.heap.size, 0, none⟩ = some (.slice sa sn sc) := cellk hbd (by assumption); have f1 : wd.cell? ⟨w.heap.size + 1, 0, none⟩ = some (.slice a0 h0 c0) := cellk hbd (by assumption); have f2 : wd.cell? ⟨w.heap.size + 1, 1, none⟩ = some (.slice a n c) := cellk hbd (by assumption); have f3 : wd.cell? ⟨w.heap.size + 1 + 1, 0, none⟩ = some (.slice b0 g0 d0) := cellk hbd (by assumption); have f4 : wd.cell? ⟨w.heap.size + 1 + 1, 1, none⟩ = some (.slice b m k) := cellk hbd (by assumption); have gB : Below W.heap.size W wd := bnext (by assumption) hbd)
        | (go_at_call 44; (try go_split_ands); ((with_reducible refine (HCA.out _ (by assumption)).mono ?_); rintro e wa ⟨va, rfl, hra, hba⟩); have f0 : wa.cell? ⟨w.heap.size, 0, none⟩ = some (.slice sa sn sc) := cellk hba (by assumption); have f1 : wa.cell? ⟨w.heap.size + 1, 0, none⟩ = some (.slice a0 h0 c0) := cellk hba (by assumption); have f2 : wa.cell? ⟨w.heap.size + 1, 1, none⟩ = some (.slice a n c) := cellk hba (by assumption); have f3 : wa.cell? ⟨w.heap.size + 1 + 1, 0, none⟩ = some (.slice b0 g0 d0) := cellk hba (by assumption); have f4 : wa.cell? ⟨w.heap.size + 1 + 1, 1, none⟩ = some (.slice b m k) := cellk hba (by assumption); have gB : Below W.heap.size W wa := bnext (by assumption) hba)
        | (go_at_call 44; (try go_split_ands); ((with_reducible refine (HCB.out _ (by assumption)).mono ?_); rintro e wb ⟨vb, rfl, hrb, hbb⟩); have f0 : wb.cell? ⟨w.heap.size, 0, none⟩ = some (.slice sa sn sc) := cellk hbb (by assumption); have f1 : wb.cell? ⟨w.heap.size + 1, 0, none⟩ = some (.slice a0 h0 c0) := cellk hbb (by assumption); have f2 : wb.cell? ⟨w.heap.size + 1, 1, none⟩ = some (.slice a n c) := cellk hbb (by assumption); have f3 : wb.cell? ⟨w.heap.size + 1 + 1, 0, none⟩ = some (.slice b0 g0 d0) := cellk hbb (by assumption); have f4 : wb.cell? ⟨w.heap.size + 1 + 1, 1, none⟩ = some (.slice b m k) := cellk hbb (by assumption); have gB : Below W.heap.size W wb := bnext (by assumption) hbb)
        | (go_at_call 43; (try go_split_ands); refine (HSM.out _ _ _ (by first | exact hra | exact RdCountedS.below hra hbb) (by first | exact hrb | exact RdCountedS.below hrb hba)).mono ?_; rintro e wz ⟨rfl, hbz⟩; have f0 : wz.cell? ⟨w.heap.size, 0, none⟩ = some (.slice sa sn sc) := cellk hbz (by assumption); have f1 : wz.cell? ⟨w.heap.size + 1, 0, none⟩ = some (.slice a0 h0 c0) := cellk hbz (by assumption); have f2 : wz.cell? ⟨w.heap.size + 1, 1, none⟩ = some (.slice a n c) := cellk hbz (by assumption); have f3 : wz.cell? ⟨w.heap.size + 1 + 1, 0, none⟩ = some (.slice b0 g0 d0) := cellk hbz (by assumption); have f4 : wz.cell? ⟨w.heap.size + 1 + 1, 1, none⟩ = some (.slice b m k) := cellk hbz (by assumption); have gB : Below W.heap.size W wz := bnext (by assumption) hbz))
    all_goals (go_wp2_with fail)
    all_goals go_ret
    all_goals exact ⟨ret_b HT.out.symm, bnext HBW.out (by first | assumption | exact bnext gB (below_alloc _ _))⟩
end Go.Proofs.YtnbljidjbknleaaGreat

/-! S11w -/
namespace Go.Proofs.YtnbljidjbknleaaGreat
open Go Go.Sort Go.RowKit
set_option linter.unusedVariables false
set_option linter.unusedSimpArgs false

def bwT (q : QueryD) (v : Nat) : List AtomD := twN (frzDb q) (val8 (v : Int)) (frzDb q).length
def bwL (s : List Int) (a b q : QueryD) : Option (List AtomD) := if difB s a b (frzDb q) then some (frzDb q) else ((List.range 20).map (bwT q)).find? (difB s a b)
def bwR (s : List Int) (a b : QueryD) : Option (List AtomD) := if fineB s a 4 && fineB s b 4 then (match bwL s a b a with | some x => some x | none => bwL s a b b) else none
theorem bwL_0 {s : List Int} {a b q : QueryD} (h : difB s a b (frzDb q) = true) : bwL s a b q = some (frzDb q) := by unfold bwL; rw [if_pos h]
theorem bwL_v {s : List Int} {a b q : QueryD} {v : Nat} (h : difB s a b (frzDb q) = false) (hv : v < 20) (hn : ∀ v' < v, difB s a b (bwT q v') = false) (ht : difB s a b (bwT q v) = true) : bwL s a b q = some (bwT q v) := by
  unfold bwL; rw [if_neg (by rw [h]; decide)]
  rw [List.find?_eq_some_iff_getElem]
  refine ⟨ht, v, by simp; exact hv, by simp, fun j hj => ?_⟩
  simp [hn j hj]
theorem bwL_none {s : List Int} {a b q : QueryD} (h : difB s a b (frzDb q) = false) (hn : ∀ v' < 20, difB s a b (bwT q v') = false) : bwL s a b q = none := by
  unfold bwL; rw [if_neg (by rw [h]; decide), List.find?_eq_none]
  intro x hx
  obtain ⟨v, hv, rfl⟩ := List.mem_map.1 hx
  rw [hn v (List.mem_range.1 hv)]; decide
theorem val_term (v : Nat) (h : v < 20) : termB (v : Int) = true := by unfold termB varB; simp; omega
theorem emptyA (w : World) (a : Option Addr) (c : Nat) (hc : c ≤ maxLen) : RdAtomS w (.slice a 0 c) [] := ⟨a, 0, c, rfl, a, 0, c, rfl, rfl, Nat.zero_le _, hc, fun h => by omega⟩
def GaveWit (w : World) (r : Option (List AtomD)) (e : Ending) (w' : World) : Prop := ∃ v, e = .returned (.tuple #[v, .bool r.isSome]) ∧ RdAtomS w' v (r.getD []) ∧ Below w.heap.size w w'

set_option maxRecDepth 100000 in
set_option maxHeartbeats 2000000 in
theorem sBagWit_any (w : World) (vs va vb : Value) (s : List Int) (da db : QueryD) (hvs : RdSchema w vs s) (ha : RdQuery w va da) (hb : RdQuery w vb db) (h1 : sizeQuery da ≤ 1048576) (h2 : sizeQuery db ≤ 1048576) :
    Calls Tryz.prog 6 #[vs, va, vb] w (GaveWit w (bwR s da db)) := by
  have HQ1 := Lib.hid (fun W (h : Below w.heap.size w W) => sIsQuery_any W vs va s da (RdSchema.below hvs h) (RdQuery.below ha h) (by unfold sizeQuery at h1; omega))
  have HQ2 := Lib.hid (fun W (h : Below w.heap.size w W) => sIsQuery_any W vs vb s db (RdSchema.below hvs h) (RdQuery.below hb h) (by unfold sizeQuery at h2; omega))
  have HFA := Lib.hid (fun W (h : Below w.heap.size w W) => sFreeze_any W va da (RdQuery.below ha h))
  have HFB := Lib.hid (fun W (h : Below w.heap.size w W) => sFreeze_any W vb db (RdQuery.below hb h))
  have HDF := Lib.hid (fun W u l (h : Below w.heap.size w W) (hu : RdAtomS W u l) => sDiffer_any W vs va vb u s da db l (RdSchema.below hvs h) (RdQuery.below ha h) (RdQuery.below hb h) hu h1 h2)
  have HTW := Lib.hid (fun W u (q : QueryD) x (hu : RdAtomS W u (frzDb q)) => sTwins_any W u (frzDb q) x hu (frzDb_3 q) (by have := frzDb_8 q; omega))
  have HVA := Lib.hid (fun W (v : Nat) (h : v < 20) => sValue8_any W (v : Int) (val_term v h))
  obtain ⟨R, hR⟩ : ∃ R, bwR s da db = R := ⟨_, rfl⟩
  rw [hR]
  unfold bwR at hR
  obtain ⟨p1, hp1⟩ : ∃ p, fineB s da 4 = p := ⟨_, rfl⟩
  obtain ⟨p2, hp2⟩ : ∃ p, fineB s db 4 = p := ⟨_, rfl⟩
  rw [hp1, hp2] at hR
  rw [hp1] at HQ1
  rw [hp2] at HQ2
  have HRR := Lib.hid hR.symm
  clear hR hp1 hp2 h1 h2
  obtain ⟨sa, sn, sc, rfl, hs⟩ := hvs
  obtain ⟨a0, h0, c0, a, n, c, rfl, hi, ha⟩ := ha
  obtain ⟨b0, g0, d0, b, m, k, rfl, hj, hb⟩ := hb
  have hb0 : ∀ a b c, Below w.heap.size w (((w.alloc a).alloc b).alloc c) := fun a b c => (((Below.refl _ _).alloc (Nat.le_refl _) _).alloc (by simp) _).alloc (by simp; omega) _
  have HB0 := Lib.hid hb0
  clear hs hi ha hj hb hb0
  go_enter Tryz.func6, Tryz.ntmps6
  go_wp2_with fail
  obtain ⟨W, hW⟩ : ∃ W, W = ((w.alloc (.cells #[.slice sa sn sc] 33)).alloc (.cells #[.slice a0 h0 c0, .slice a n c] 37)).alloc (.cells #[.slice b0 g0 d0, .slice b m k] 37) := ⟨_, rfl⟩
  have HBW : Hid (Below w.heap.size w W) := by rw [hW]; exact HB0.out _ _ _
  have q0 : W.cell? ⟨w.heap.size, 0, none⟩ = some (.slice sa sn sc) := by rw [hW]; exact box1 w _ _ _ _ 0 _ rfl
  have q1 : W.cell? ⟨w.heap.size + 1, 0, none⟩ = some (.slice a0 h0 c0) := by rw [hW]; exact box2 w _ _ _ _ 0 _ rfl
  have q2 : W.cell? ⟨w.heap.size + 1, 1, none⟩ = some (.slice a n c) := by rw [hW]; exact box2 w _ _ _ _ 1 _ rfl
  have q3 : W.cell? ⟨w.heap.size + 1 + 1, 0, none⟩ = some (.slice b0 g0 d0) := by rw [hW]; exact box3 w _ _ _ _ 0 _ rfl
  have q4 : W.cell? ⟨w.heap.size + 1 + 1, 1, none⟩ = some (.slice b m k) := by rw [hW]; exact box3 w _ _ _ _ 1 _ rfl
  rw [← hW]
  clear hW
  have HBN := HBW
  refine (HQ1.out _ HBW.out).mono ?_
  rintro e w1 ⟨rfl, hbb⟩
  replace q0 := cellk hbb q0
  replace q1 := cellk hbb q1
  replace q2 := cellk hbb q2
  replace q3 := cellk hbb q3
  replace q4 := cellk hbb q4
  replace HBN := Lib.hid (bnext HBN.out hbb)
  clear hbb
  cases p1 with
  | false =>
    have HF : Hid (R = none) := HRR.out.trans (by simp)
    go_wp2_with fail
    exact bodyPost_ret (v := .tuple #[.slice (some ⟨w1.heap.size, 0, none⟩) 0 0, .bool false]) (by simp [results, Tryz.results6, go_sem]) rfl ⟨_, by rw [HF.out]; rfl, by rw [HF.out]; exact emptyA _ _ _ (Nat.zero_le _), bnext HBN.out (below_alloc _ _)⟩
  | true =>
    go_wp2_with fail
    refine (HQ2.out _ HBN.out).mono ?_
    rintro e w2 ⟨rfl, hbb⟩
    replace q0 := cellk hbb q0
    replace q1 := cellk hbb q1
    replace q2 := cellk hbb q2
    replace q3 := cellk hbb q3
    replace q4 := cellk hbb q4
    replace HBN := Lib.hid (bnext HBN.out hbb)
    clear hbb
    cases p2 with
    | false =>
      have HF : Hid (R = none) := HRR.out.trans (by simp)
      go_wp2_with fail
      exact bodyPost_ret (v := .tuple #[.slice (some ⟨w2.heap.size, 0, none⟩) 0 0, .bool false]) (by simp [results, Tryz.results6, go_sem]) rfl ⟨_, by rw [HF.out]; rfl, by rw [HF.out]; exact emptyA _ _ _ (Nat.zero_le _), bnext HBN.out (below_alloc _ _)⟩
    | true =>
      go_wp2_with fail
      have Q0 := Lib.hid q0
      have Q1 := Lib.hid q1
      have Q2 := Lib.hid q2
      have Q3 := Lib.hid q3
      have Q4 := Lib.hid q4
      clear q0 q1 q2 q3 q4
      go_loopw [8] (fun kv wr => ∃ k : Nat, k ≤ 2 ∧ kv = .int .i64 k ∧ Below w2.heap.size w2 wr ∧ Hid (1 ≤ k → bwL s da db da = none) ∧ Hid (2 ≤ k → bwL s da db db = none)) (fun kv _ => 2 - (intOf kv).toNat)
      case atStart => exact ⟨0, by omega, rfl, Below.refl _ _, Lib.hid (fun h => by omega), Lib.hid (fun h => by omega)⟩
      case round =>
        obtain ⟨wk, hwk⟩ : ∃ q, q = wr := ⟨_, rfl⟩
        subst hwk
        obtain ⟨kk, hk, rfl, hb, HK1, HK2⟩ := hrel
        have HBK := Lib.hid hb
        have q0 := cellk hb Q0.out
        have q1 := cellk hb Q1.out
        have q2 := cellk hb Q2.out
        have q3 := cellk hb Q3.out
        have q4 := cellk hb Q4.out
        have HBN2 := Lib.hid (bnext HBN.out hb)
        clear hb
        by_cases hk0 : kk = 0
        · subst hk0
          have HPRE : Hid (∀ x, bwL s da db da = some x → R = some x) := Lib.hid (fun x hx => HRR.out.trans (by rw [hx]; rfl))
          have hbz := below_alloc wk (.cells #[.slice a0 h0 c0, .slice a n c] 37)
          have y0 := cellk hbz q0
          have y1 := cellk hbz q1
          have y2 := cellk hbz q2
          have y3 := cellk hbz q3
          have y4 := cellk hbz q4
          have HBZ := Lib.hid (bnext HBN2.out hbz)
          have HBY := Lib.hid (bnext HBK.out hbz)
          clear hbz
          go_wp2_with fail
          clear q0 q1 q2 q3 q4
          have q0 := y0
          have q1 := y1
          have q2 := y2
          have q3 := y3
          have q4 := y4
          clear y0 y1 y2 y3 y4
          refine (HFA.out _ HBZ.out).mono ?_
          rintro e w3 ⟨v1, v2, rfl, hv1, _, hbb⟩
          replace q0 := cellk hbb q0
          replace q1 := cellk hbb q1
          replace q2 := cellk hbb q2
          replace q3 := cellk hbb q3
          replace q4 := cellk hbb q4
          have HV1 := Lib.hid hv1
          have HB3 := Lib.hid (bnext HBZ.out hbb)
          have HY3 := Lib.hid (bnext HBY.out hbb)
          have hdf := HDF.out w3 v1 _ HB3.out hv1
          obtain ⟨p, hp⟩ : ∃ p, difB s da db (frzDb da) = p := ⟨_, rfl⟩
          rw [hp] at hdf
          have HP := Lib.hid hp
          have HDC := Lib.hid hdf
          clear hbb hv1 hdf hp
          go_wp2_with fail
          refine HDC.out.mono ?_
          rintro e w4 ⟨rfl, hbb⟩
          have HV4 := Lib.hid (RdAtomS.below HV1.out hbb)
          have HB4 := Lib.hid (bnext HB3.out hbb)
          have HY4 := Lib.hid (bnext HY3.out hbb)
          replace q0 := cellk hbb q0
          replace q1 := cellk hbb q1
          replace q2 := cellk hbb q2
          replace q3 := cellk hbb q3
          replace q4 := cellk hbb q4
          have Z0 := Lib.hid q0
          have Z1 := Lib.hid q1
          have Z2 := Lib.hid q2
          have Z3 := Lib.hid q3
          have Z4 := Lib.hid q4
          clear hbb
          cases p with
          | true =>
            have HF : Hid (R = some (frzDb da)) := HPRE.out _ (bwL_0 HP.out)
            go_wp2_with fail
            exact bodyPost_ret (v := .tuple #[v1, .bool true]) (by simp [results, Tryz.results6, go_sem]) rfl ⟨_, by rw [HF.out]; rfl, by rw [HF.out]; exact HV4.out, HB4.out⟩
          | false =>
            go_wp2_with fail
            clear q0 q1 q2 q3 q4
            go_loopw [12] (fun vv wr => ∃ v : Nat, v ≤ 20 ∧ vv = .int .i64 v ∧ Below w4.heap.size w4 wr ∧ Hid (∀ v' < v, difB s da db (bwT da v') = false)) (fun vv _ => 20 - (intOf vv).toNat)
            case atStart => exact ⟨0, by omega, rfl, Below.refl _ _, Lib.hid (fun v' h => by omega)⟩
            case round =>
              obtain ⟨wv, hwv⟩ : ∃ q, q = wr := ⟨_, rfl⟩
              subst hwv
              obtain ⟨v, hv, rfl, hb, HN⟩ := hrel
              have HBV := Lib.hid hb
              have HTC := Lib.hid (HTW.out wv v1 da (val8 (v : Int)) (RdAtomS.below HV4.out hb))
              clear hb
              by_cases hlt : v < 20
              · have HVC := Lib.hid (HVA.out wv v hlt)
                go_wp2_with fail
                refine HVC.out.mono ?_
                rintro e w' ⟨rfl, rfl⟩
                go_wp2_with fail
                refine HTC.out.mono ?_
                rintro e w5 ⟨x1, rfl, hx1, hbb⟩
                have HX1 := Lib.hid hx1
                have HB5 := Lib.hid (bnext HB4.out (bnext HBV.out hbb))
                have HBV5 := Lib.hid (bnext HBV.out hbb)
                have q0 := cellk HBV5.out Z0.out
                have q1 := cellk HBV5.out Z1.out
                have q2 := cellk HBV5.out Z2.out
                have q3 := cellk HBV5.out Z3.out
                have q4 := cellk HBV5.out Z4.out
                have hdf := HDF.out w5 x1 _ HB5.out hx1
                obtain ⟨p, hp⟩ : ∃ p, difB s da db (bwT da v) = p := ⟨_, rfl⟩
                have HP2 := Lib.hid hp
                unfold bwT at hp
                rw [hp] at hdf
                have HDC2 := Lib.hid hdf
                clear hbb hx1 hdf hp
                go_wp2_with fail
                refine HDC2.out.mono ?_
                rintro e w6 ⟨rfl, hbb⟩
                have HX6 := Lib.hid (RdAtomS.below HX1.out hbb)
                have HB6 := Lib.hid (bnext HB5.out hbb)
                have HBV6 := Lib.hid (bnext HBV5.out hbb)
                clear hbb q0 q1 q2 q3 q4
                cases p with
                | true =>
                  have HF : Hid (R = some (bwT da v)) := HPRE.out _ (bwL_v HP.out hlt HN.out HP2.out)
                  go_wp2_with fail
                  exact bodyPost_ret (v := .tuple #[x1, .bool true]) (by simp [results, Tryz.results6, go_sem]) rfl ⟨_, by rw [HF.out]; rfl, by rw [HF.out]; exact HX6.out, HB6.out⟩
                | false =>
                  go_wp2_with fail
                  exact ⟨⟨v + 1, by omega, by simp, HBV6.out, Lib.hid (fun v' h => by
                    by_cases h9 : v' < v
                    · exact HN.out v' h9
                    · obtain rfl : v' = v := by omega
                      exact HP2.out)⟩, by simp [intOf]; omega⟩
              · obtain rfl : v = 20 := by omega
                have HNONE : Hid (bwL s da db da = none) := bwL_none HP.out HN.out
                have HBY5 := Lib.hid (bnext HY4.out HBV.out)
                go_wp2_with fail
                exact ⟨⟨1, by omega, by simp, HBY5.out, Lib.hid (fun _ => HNONE.out), Lib.hid (fun h => by omega)⟩, by simp [intOf]⟩
        · by_cases hk1 : kk = 1
          · subst hk1
            have HNA : Hid (bwL s da db da = none) := HK1.out (by omega)
            have HPRE : Hid (∀ x, bwL s da db db = some x → R = some x) := Lib.hid (fun x hx => HRR.out.trans (by rw [HNA.out, hx]; rfl))
            have hbz := below_alloc wk (.cells #[.slice a0 h0 c0, .slice a n c] 37)
            have hbz2 := below_alloc wk (.cells #[.slice b0 g0 d0, .slice b m k] 37)
            have q3' := cellk hbz q3
            have q4' := cellk hbz q4
            have y0 := cellk hbz2 q0
            have y1 := cellk hbz2 q1
            have y2 := cellk hbz2 q2
            have y3 := cellk hbz2 q3
            have y4 := cellk hbz2 q4
            have HBZ := Lib.hid (bnext HBN2.out hbz2)
            have HBY := Lib.hid (bnext HBK.out hbz2)
            clear hbz hbz2
            go_wp2_with fail
            clear q3' q4' q0 q1 q2 q3 q4
            have q0 := y0
            have q1 := y1
            have q2 := y2
            have q3 := y3
            have q4 := y4
            clear y0 y1 y2 y3 y4
            refine (HFB.out _ HBZ.out).mono ?_
            rintro e w3 ⟨v1, v2, rfl, hv1, _, hbb⟩
            replace q0 := cellk hbb q0
            replace q1 := cellk hbb q1
            replace q2 := cellk hbb q2
            replace q3 := cellk hbb q3
            replace q4 := cellk hbb q4
            have HV1 := Lib.hid hv1
            have HB3 := Lib.hid (bnext HBZ.out hbb)
            have HY3 := Lib.hid (bnext HBY.out hbb)
            have hdf := HDF.out w3 v1 _ HB3.out hv1
            obtain ⟨p, hp⟩ : ∃ p, difB s da db (frzDb db) = p := ⟨_, rfl⟩
            rw [hp] at hdf
            have HP := Lib.hid hp
            have HDC := Lib.hid hdf
            clear hbb hv1 hdf hp
            go_wp2_with fail
            refine HDC.out.mono ?_
            rintro e w4 ⟨rfl, hbb⟩
            have HV4 := Lib.hid (RdAtomS.below HV1.out hbb)
            have HB4 := Lib.hid (bnext HB3.out hbb)
            have HY4 := Lib.hid (bnext HY3.out hbb)
            replace q0 := cellk hbb q0
            replace q1 := cellk hbb q1
            replace q2 := cellk hbb q2
            replace q3 := cellk hbb q3
            replace q4 := cellk hbb q4
            have Z0 := Lib.hid q0
            have Z1 := Lib.hid q1
            have Z2 := Lib.hid q2
            have Z3 := Lib.hid q3
            have Z4 := Lib.hid q4
            clear hbb
            cases p with
            | true =>
              have HF : Hid (R = some (frzDb db)) := HPRE.out _ (bwL_0 HP.out)
              go_wp2_with fail
              exact bodyPost_ret (v := .tuple #[v1, .bool true]) (by simp [results, Tryz.results6, go_sem]) rfl ⟨_, by rw [HF.out]; rfl, by rw [HF.out]; exact HV4.out, HB4.out⟩
            | false =>
              go_wp2_with fail
              clear q0 q1 q2 q3 q4
              go_loopw [12] (fun vv wr => ∃ v : Nat, v ≤ 20 ∧ vv = .int .i64 v ∧ Below w4.heap.size w4 wr ∧ Hid (∀ v' < v, difB s da db (bwT db v') = false)) (fun vv _ => 20 - (intOf vv).toNat)
              case atStart => exact ⟨0, by omega, rfl, Below.refl _ _, Lib.hid (fun v' h => by omega)⟩
              case round =>
                obtain ⟨wv, hwv⟩ : ∃ q, q = wr := ⟨_, rfl⟩
                subst hwv
                obtain ⟨v, hv, rfl, hb, HN⟩ := hrel
                have HBV := Lib.hid hb
                have HTC := Lib.hid (HTW.out wv v1 db (val8 (v : Int)) (RdAtomS.below HV4.out hb))
                clear hb
                by_cases hlt : v < 20
                · have HVC := Lib.hid (HVA.out wv v hlt)
                  go_wp2_with fail
                  refine HVC.out.mono ?_
                  rintro e w' ⟨rfl, rfl⟩
                  go_wp2_with fail
                  refine HTC.out.mono ?_
                  rintro e w5 ⟨x1, rfl, hx1, hbb⟩
                  have HX1 := Lib.hid hx1
                  have HB5 := Lib.hid (bnext HB4.out (bnext HBV.out hbb))
                  have HBV5 := Lib.hid (bnext HBV.out hbb)
                  have q0 := cellk HBV5.out Z0.out
                  have q1 := cellk HBV5.out Z1.out
                  have q2 := cellk HBV5.out Z2.out
                  have q3 := cellk HBV5.out Z3.out
                  have q4 := cellk HBV5.out Z4.out
                  have hdf := HDF.out w5 x1 _ HB5.out hx1
                  obtain ⟨p, hp⟩ : ∃ p, difB s da db (bwT db v) = p := ⟨_, rfl⟩
                  have HP2 := Lib.hid hp
                  unfold bwT at hp
                  rw [hp] at hdf
                  have HDC2 := Lib.hid hdf
                  clear hbb hx1 hdf hp
                  go_wp2_with fail
                  refine HDC2.out.mono ?_
                  rintro e w6 ⟨rfl, hbb⟩
                  have HX6 := Lib.hid (RdAtomS.below HX1.out hbb)
                  have HB6 := Lib.hid (bnext HB5.out hbb)
                  have HBV6 := Lib.hid (bnext HBV5.out hbb)
                  clear hbb q0 q1 q2 q3 q4
                  cases p with
                  | true =>
                    have HF : Hid (R = some (bwT db v)) := HPRE.out _ (bwL_v HP.out hlt HN.out HP2.out)
                    go_wp2_with fail
                    exact bodyPost_ret (v := .tuple #[x1, .bool true]) (by simp [results, Tryz.results6, go_sem]) rfl ⟨_, by rw [HF.out]; rfl, by rw [HF.out]; exact HX6.out, HB6.out⟩
                  | false =>
                    go_wp2_with fail
                    exact ⟨⟨v + 1, by omega, by simp, HBV6.out, Lib.hid (fun v' h => by
                      by_cases h9 : v' < v
                      · exact HN.out v' h9
                      · obtain rfl : v' = v := by omega
                        exact HP2.out)⟩, by simp [intOf]; omega⟩
                · obtain rfl : v = 20 := by omega
                  have HNONE : Hid (bwL s da db db = none) := bwL_none HP.out HN.out
                  have HBY5 := Lib.hid (bnext HY4.out HBV.out)
                  go_wp2_with fail
                  exact ⟨⟨2, by omega, by simp, HBY5.out, Lib.hid (fun _ => HNA.out), Lib.hid (fun _ => HNONE.out)⟩, by simp [intOf]⟩
          · obtain rfl : kk = 2 := by omega
            have HF : Hid (R = none) := HRR.out.trans (by rw [HK1.out (by omega), HK2.out (by omega)]; rfl)
            go_wp2_with fail
            exact bodyPost_ret (v := .tuple #[.slice (some ⟨wk.heap.size, 0, none⟩) 0 0, .bool false]) (by simp [results, Tryz.results6, go_sem]) rfl ⟨_, by rw [HF.out]; rfl, by rw [HF.out]; exact emptyA _ _ _ (Nat.zero_le _), bnext HBN2.out (below_alloc _ _)⟩
end Go.Proofs.YtnbljidjbknleaaGreat
