/- Contracts of chapter 9's impl: newQuery, WithoutAtom, IsRedundant. -/
import Derived.Test.YtgnlglfppeepeaaI9a
import Derived.Deep.RegionHeld3
namespace Go.Proofs.Ytgnlglfppeepeaa
open Go Go.Sort Go.RowKit
set_option linter.unusedVariables false

theorem RdAtomS.shape9 {w : World} {v : Value} {l : List AtomD} (h : RdAtomS w v l) : ∃ a n c, v = .slice a n c := by
  obtain ⟨a, n, c, rfl, _⟩ := h; exact ⟨a, n, c, rfl⟩
set_option maxHeartbeats 4000000 in
theorem iNewQuery_any (w : World) (va vb : Value) (hd : List Int) (bd : List AtomD) (h1 : Ints w va hd) (h2 : RdAtomS w vb bd) (hz : hd.length + sizeAtomS bd ≤ 1048576) :
    Calls Try.prog 85 #[va, vb] w (GaveO (fun w' v' bs => ROQuery w' v' (hd, bd) bs) w) := by
  obtain ⟨a0, n0, c0, rfl⟩ := h1.shape
  obtain ⟨a, n, c, rfl, h2⟩ := h2
  have HR := Lib.hid (fun W (hb : Below w.heap.size w W) => iRenameQuery_any W (.agg #[.slice a0 n0 c0, .slice a n c]) (.slice none 0 0) (hd, bd) [] ⟨_, _, _, _, _, _, rfl, h1.below hb, RdSl.below h2 (fun _ _ h => h.below hb) hb⟩ (Ints.nil W) hz)
  rw [renQ_nil9] at HR
  clear h1 h2
  go_enter Try.func85, Try.ntmps85
  go_wp2_with fail
  obtain ⟨W, hW⟩ : ∃ W, W = w.alloc (.cells #[.slice none 0 0, .slice none 0 0] 44) := ⟨_, rfl⟩
  have hbw : Below w.heap.size w W := by rw [hW]; exact below_alloc _ _
  have k0 : W.cell? ⟨w.heap.size, 0, none⟩ = some (.slice none 0 0) := by rw [hW]; simp
  have k1 : W.cell? ⟨w.heap.size, 1, none⟩ = some (.slice none 0 0) := by rw [hW]; simp
  have f0 : W.frozen? ⟨w.heap.size, 0, none⟩ = false := by rw [hW]; simp
  have f1 : W.frozen? ⟨w.heap.size, 1, none⟩ = false := by rw [hW]; simp
  have hsz : W.heap.size = w.heap.size + 1 := by rw [hW]; simp
  rw [← hW]
  clear hW
  refine (HR.out _ hbw).mono ?_
  rintro e w1 ⟨r, bs, rfl, hr, hfr, hbb⟩
  replace f0 := frok hbb k0 f0
  replace f1 := frok hbb k1 f1
  replace k0 := cellk hbb k0
  replace k1 := cellk hbb k1
  have HR1 := Lib.hid hr
  have HF1 := Lib.hid hfr
  have HB1 := Lib.hid (bnext hbw hbb)
  obtain ⟨ra, rn, rc, ra', rn', rc', rfl, _⟩ := hr
  clear hbb hfr hbw
  go_wp2_with fail
  have hk : OnlyAt [w.heap.size] w1 ((w1.setCell ⟨w.heap.size, 0, none⟩ (.slice ra rn rc)).setCell ⟨w.heap.size, 1, none⟩ (.slice ra' rn' rc')) := (OnlyAt.setCell w1 _ _ _).same (OnlyAt.setCell _ _ _ _)
  exact bodyPost_ret (v := .agg #[.slice ra rn rc, .slice ra' rn' rc']) (by simp [results, Try.results85, go_sem, k0, k1]) rfl ⟨_, bs, rfl, HR1.out.onlyAt hk (fun b hb hm => by have := (HF1.out.2 b hb).1; simp at hm; omega), ⟨HF1.out.1, fun b hb => ⟨by have := (HF1.out.2 b hb).1; omega, Nat.lt_of_lt_of_le (HF1.out.2 b hb).2 hk.size⟩⟩, OnlyAt.below HB1.out hk (fun x hx => by simp at hx; omega)⟩

/-- A query of its own memory laid into a box. -/
def LaidQ (W : World) (q : QueryD) (wx : World) (B : Nat) (a : Option Addr) (n c : Nat) (a' : Option Addr) (n' c' : Nat) (bs : List Nat) : Prop :=
  wx.cell? ⟨B, 0, none⟩ = some (.slice a n c) ∧ wx.cell? ⟨B, 1, none⟩ = some (.slice a' n' c') ∧ wx.frozen? ⟨B, 0, none⟩ = false ∧ wx.frozen? ⟨B, 1, none⟩ = false ∧ ROQuery wx (.agg #[.slice a n c, .slice a' n' c']) q bs ∧ bs.Nodup ∧ (∀ b ∈ bs, W.heap.size ≤ b ∧ b < wx.heap.size ∧ b ≠ B) ∧ W.heap.size ≤ B ∧ B < wx.heap.size ∧ Below W.heap.size W wx
theorem laidQ_set {W w4 : World} {q : QueryD} {B : Nat} {a : Option Addr} {n c : Nat} {a' : Option Addr} {n' c' : Nat} {bs : List Nat} {u u' : Value} (hro : ROQuery w4 (.agg #[.slice a n c, .slice a' n' c']) q bs) (hnd : bs.Nodup) (hlo : ∀ b ∈ bs, W.heap.size ≤ b ∧ b < w4.heap.size ∧ b ≠ B) (hB : W.heap.size ≤ B) (hb : Below W.heap.size W w4) (z0 : w4.cell? ⟨B, 0, none⟩ = some u) (z1 : w4.cell? ⟨B, 1, none⟩ = some u') (y0 : w4.frozen? ⟨B, 0, none⟩ = false) (y1 : w4.frozen? ⟨B, 1, none⟩ = false) :
    LaidQ W q ((w4.setCell ⟨B, 0, none⟩ (.slice a n c)).setCell ⟨B, 1, none⟩ (.slice a' n' c')) B a n c a' n' c' bs := by
  have hk : OnlyAt [B] w4 ((w4.setCell ⟨B, 0, none⟩ (.slice a n c)).setCell ⟨B, 1, none⟩ (.slice a' n' c')) := (OnlyAt.setCell w4 _ _ _).same (OnlyAt.setCell _ _ _ _)
  have e1 : (w4.setCell ⟨B, 0, none⟩ (.slice a n c)).cell? ⟨B, 0, none⟩ = some (.slice a n c) := World.cell?_setCell_same _ _ _ z0
  have e2 : (w4.setCell ⟨B, 0, none⟩ (.slice a n c)).cell? ⟨B, 1, none⟩ = some u' := by rw [World.cell?_setCell_other _ _ _ _ (by intro e; cases e)]; exact z1
  refine ⟨?_, World.cell?_setCell_same _ _ _ e2, by simpa using y0, by simpa using y1, hro.onlyAt hk (fun b hb' hm => (hlo b hb').2.2 (by simpa using hm)), hnd, fun b hb' => ⟨(hlo b hb').1, Nat.lt_of_lt_of_le (hlo b hb').2.1 hk.size, (hlo b hb').2.2⟩, hB, Nat.lt_of_lt_of_le (World.block_lt_of_cell? _ _ z0) hk.size, OnlyAt.below hb hk (fun b hb' => by simp at hb'; omega)⟩
  rw [World.cell?_setCell_other _ _ _ _ (by intro e; cases e)]; exact e1
theorem laidQ_new {W w4 : World} {q : QueryD} {a : Option Addr} {n c : Nat} {a' : Option Addr} {n' c' : Nat} {bs : List Nat} {T : TypeId} (hro : ROQuery w4 (.agg #[.slice a n c, .slice a' n' c']) q bs) (hnd : bs.Nodup) (hlo : ∀ b ∈ bs, W.heap.size ≤ b ∧ b < w4.heap.size) (hb : Below W.heap.size W w4) :
    LaidQ W q (w4.alloc (.cells #[.slice a n c, .slice a' n' c'] T)) w4.heap.size a n c a' n' c' bs := by
  exact ⟨by simp, by simp, by simp, by simp, hro.below (below_alloc _ _), hnd, fun b hb' => ⟨(hlo b hb').1, by have := (hlo b hb').2; simp; omega, by have := (hlo b hb').2; omega⟩, hb.size, by simp, bnext hb (below_alloc _ _)⟩
theorem LaidQ.below {W wx w' : World} {q : QueryD} {B : Nat} {a : Option Addr} {n c : Nat} {a' : Option Addr} {n' c' : Nat} {bs : List Nat} (h : LaidQ W q wx B a n c a' n' c' bs) (hb : Below wx.heap.size wx w') : LaidQ W q w' B a n c a' n' c' bs := by
  obtain ⟨h1, h2, h3, h4, h5, h6, h7, h8, h9, h10⟩ := h
  exact ⟨cellk hb h1, cellk hb h2, frok hb h1 h3, frok hb h2 h4, h5.below hb, h6, fun b hb' => ⟨(h7 b hb').1, Nat.lt_of_lt_of_le (h7 b hb').2.1 hb.size, (h7 b hb').2.2⟩, h8, Nat.lt_of_lt_of_le h9 hb.size, bnext h10 hb⟩

/-- A call that answers a query of its own memory that reads as d, and b. -/
def GaveQBo (w : World) (d : QueryD) (b : Bool) (e : Ending) (w' : World) : Prop := ∃ a n c a' n' c' bs, e = .returned (.tuple #[.agg #[.slice a n c, .slice a' n' c'], .bool b]) ∧ ROQuery w' (.agg #[.slice a n c, .slice a' n' c']) d bs ∧ Fresh w w' bs ∧ Below w.heap.size w w'
set_option maxRecDepth 100000 in
set_option maxHeartbeats 16000000 in
theorem iWithoutO_any (w : World) (vs v : Value) (s : List Int) (d : QueryD) (i : Int) (hvs : RdSchema w vs s) (h : RdQuery w v d) (hz : sizeQuery d ≤ 1048576) :
    Calls Try.prog 45 #[vs, v, .int .i64 i] w (GaveQBo w (woQ s d i) (woB s d i)) := by
  have hz2 : sizeAtomS d.2 ≤ 1048576 := by unfold sizeQuery at hz; omega
  have HQ := Lib.hid (fun W (hb : Below w.heap.size w W) => iIsQuery_any W vs v s d (RdSchema.below hvs hb) (RdQuery.below h hb) hz2)
  have HQX := Lib.hid (fun W x (hb : Below w.heap.size w W) (hx : RdQuery W x (cut9 d i.toNat)) => iIsQuery_any W vs x s (cut9 d i.toNat) (RdSchema.below hvs hb) hx (Nat.le_trans (cut9_size d i.toNat) hz2))
  obtain ⟨B, hB⟩ : ∃ B, B = woB s d i := ⟨_, rfl⟩
  obtain ⟨Q, hQ⟩ : ∃ Q, Q = woQ s d i := ⟨_, rfl⟩
  rw [← hB, ← hQ]
  obtain ⟨sa, sn, sc, rfl, hs⟩ := hvs
  obtain ⟨a0, n0, c0, a, n, c, rfl, hi, ha⟩ := h
  obtain ⟨hl, hn, hm, hcell⟩ := ha.at
  unfold maxLen at hm
  have hat : RdAtomS w (.slice a n c) d.2 := ⟨_, _, _, rfl, ha⟩
  have hln : n ≤ 1048576 := by unfold sizeAtomS at hz2; omega
  have HNQ := Lib.hid (fun W (hb : Below w.heap.size w W) => iNewQuery_any W (.slice a0 n0 c0) (.slice a n c) d.1 d.2 (hi.below hb) (hat.below hb) hz)
  have HRU := Lib.hid (fun W => iRuleOf_any W a0 n0 c0 a n c)
  have HWF0 := Lib.hid (fun W (k : Nat) (hb : Below w.heap.size w W) (hk : k < d.2.length) => iWithoutFn_any W (.slice a n c) d.2 k (hat.below hb) hk (by omega))
  have HNX0 := Lib.hid (fun W x (hb : Below w.heap.size w W) (hx : RdAtomS W x (cutA d.2 i.toNat)) => iNewQuery_any W (.slice a0 n0 c0) x d.1 (cutA d.2 i.toNat) (hi.below hb) hx (by have := cut9_size d i.toNat; unfold cut9 at this; unfold sizeQuery at hz; simp only at this; omega))
  have HL := Lib.hid hl
  have HWB0 : Hid (woB s d i = (fineB s d 4 && (inB i 0 ((n : Int) - 1) && fineB s (cut9 d i.toNat) 4))) := by unfold Hid woB; rw [hl]
  unfold woQ at hQ
  rw [← hB] at HWB0 hQ
  have HWQ0 := Lib.hid hQ
  clear hB hQ
  obtain ⟨p1, hp1⟩ : ∃ p, fineB s d 4 = p := ⟨_, rfl⟩
  obtain ⟨p2, hp2⟩ : ∃ p, inB i 0 ((n : Int) - 1) = p := ⟨_, rfl⟩
  obtain ⟨p3, hp3⟩ : ∃ p, fineB s (cut9 d i.toNat) 4 = p := ⟨_, rfl⟩
  rw [hp1, hp2, hp3] at HWB0
  rw [hp1] at HQ
  rw [hp3] at HQX
  have HWB : Hid (∀ b, (p1 && (p2 && p3)) = b → B = b) := fun b e => HWB0.out.trans e
  have HWQ : Hid ((p1 && (p2 && p3)) = false → Q = d) := fun e => by have h1 := HWQ0.out; have h2 := HWB0.out; rw [e] at h2; rw [h2] at h1; exact h1
  have HWQ2 : Hid ((p1 && (p2 && p3)) = true → Q = cut9 d i.toNat) := fun e => by have h1 := HWQ0.out; have h2 := HWB0.out; rw [e] at h2; rw [h2] at h1; exact h1
  have HP2 := Lib.hid hp2
  have hb0 : ∀ a b c, Below w.heap.size w (((w.alloc a).alloc b).alloc c) := fun a b c => (((Below.refl _ _).alloc (Nat.le_refl _) _).alloc (by simp) _).alloc (by simp; omega) _
  have HB0 := Lib.hid hb0
  clear HWB0 HWQ0 hp1 hp2 hp3 hs hi ha hcell hl hb0 hz hz2 hat
  go_enter Try.func45, Try.ntmps45
  go_wp2_with fail
  obtain ⟨W, hW⟩ : ∃ W, W = ((w.alloc (.cells #[.slice sa sn sc] 30)).alloc (.cells #[.slice a0 n0 c0, .slice a n c] 44)).alloc (.cells #[.slice none 0 0, .slice none 0 0] 44) := ⟨_, rfl⟩
  have HBW : Hid (Below w.heap.size w W) := by rw [hW]; exact HB0.out _ _ _
  have q0 : W.cell? ⟨w.heap.size, 0, none⟩ = some (.slice sa sn sc) := by rw [hW]; exact box1 w _ _ _ _ 0 _ rfl
  have q1 : W.cell? ⟨w.heap.size + 1, 0, none⟩ = some (.slice a0 n0 c0) := by rw [hW]; exact box2 w _ _ _ _ 0 _ rfl
  have q2 : W.cell? ⟨w.heap.size + 1, 1, none⟩ = some (.slice a n c) := by rw [hW]; exact box2 w _ _ _ _ 1 _ rfl
  have k0 : W.cell? ⟨w.heap.size + 1 + 1, 0, none⟩ = some (.slice none 0 0) := by rw [hW]; exact box3 w _ _ _ _ 0 _ rfl
  have k1 : W.cell? ⟨w.heap.size + 1 + 1, 1, none⟩ = some (.slice none 0 0) := by rw [hW]; exact box3 w _ _ _ _ 1 _ rfl
  have f0 : W.frozen? ⟨w.heap.size + 1 + 1, 0, none⟩ = false := by rw [hW]; exact frz3 w _ _ _ _ 0
  have f1 : W.frozen? ⟨w.heap.size + 1 + 1, 1, none⟩ = false := by rw [hW]; exact frz3 w _ _ _ _ 1
  have hsz : W.heap.size = w.heap.size + 3 := by rw [hW]; simp
  rw [← hW]
  clear hW
  refine (HQ.out _ HBW.out).mono ?_
  rintro e w1 ⟨rfl, hbb⟩
  replace f0 := frok hbb k0 f0
  replace f1 := frok hbb k1 f1
  replace q0 := cellk hbb q0
  replace q1 := cellk hbb q1
  replace q2 := cellk hbb q2
  replace k0 := cellk hbb k0
  replace k1 := cellk hbb k1
  have HB1 := Lib.hid (bnext HBW.out hbb)
  have HSZ : Hid (w.heap.size + 3 ≤ w1.heap.size) := by have := hbb.size; exact Lib.hid (by omega)
  clear hbb hsz HBW
  cases p1 with
  | false =>
    have HWBf : Hid (B = false) := HWB.out _ rfl
    have HWQf : Hid (Q = d) := HWQ.out rfl
    clear HWB HWQ HWQ2
    go_wp2_with fail
    refine (HNQ.out _ HB1.out).mono ?_
    rintro e wc ⟨r, bs, rfl, hr, hfr, hbc⟩
    have HRc := Lib.hid hr
    obtain ⟨ra, rn, rc, ra', rn', rc', rfl, _⟩ := hr
    replace f0 := frok hbc k0 f0
    replace f1 := frok hbc k1 f1
    replace k0 := cellk hbc k0
    replace k1 := cellk hbc k1
    have HBc := Lib.hid (bnext HB1.out hbc)
    have HFc := Lib.hid hfr
    have hlo := (Below.size HB1.out)
    clear hbc hfr
    go_wp2_with fail
    have hk : OnlyAt [w.heap.size + 1 + 1] wc ((wc.setCell ⟨w.heap.size + 1 + 1, 0, none⟩ (.slice ra rn rc)).setCell ⟨w.heap.size + 1 + 1, 1, none⟩ (.slice ra' rn' rc')) := (OnlyAt.setCell wc _ _ _).same (OnlyAt.setCell _ _ _ _)
    exact bodyPost_ret (v := .tuple #[.agg #[.slice ra rn rc, .slice ra' rn' rc'], .bool false]) (by simp [results, Try.results45, go_sem, k0, k1]) rfl ⟨_, _, _, _, _, _, bs, by rw [HWBf.out], by rw [HWQf.out]; exact HRc.out.onlyAt hk (fun b hb hm => by have := (HFc.out.2 b hb).1; have := HSZ.out; simp at hm; omega), ⟨HFc.out.1, fun b hb => ⟨by have := (HFc.out.2 b hb).1; omega, Nat.lt_of_lt_of_le (HFc.out.2 b hb).2 hk.size⟩⟩, OnlyAt.below HBc.out hk (fun x hx => by simp at hx; omega)⟩
  | true =>
    by_cases hi0 : 0 ≤ i
    · by_cases hi1 : i < n
      · have HP2t : p2 = true := by rw [← HP2.out]; simp [inB]; omega
        subst HP2t
        obtain ⟨k, rfl⟩ : ∃ k : Nat, i = k := ⟨i.toNat, by omega⟩
        rw [Int.toNat_natCast] at HQX HNX0 HWQ2
        have hkn : k < n := by omega
        have HWF := Lib.hid (fun W (hb : Below w1.heap.size w1 W) => HWF0.out W k (bnext HB1.out hb) (by have := HL.out; omega))
        have HNX := Lib.hid (fun W x (hb : Below w1.heap.size w1 W) hx => HNX0.out W x (bnext HB1.out hb) hx)
        have hal := below_alloc w1 (.cells #[.slice none 0 0, .slice none 0 0] 44)
        have qa1 := cellk hal q1
        have qa2 := cellk hal q2
        have hfd : ∀ w : World, (Instr.field 89 (.agg #[.slice a0 n0 c0, .slice a n c]) 1).run Try.prog w = .ok (.slice a n c) w := fun _ => by kernel_rfl
        have hszw : w.heap.size + 3 ≤ w1.heap.size := HSZ.out
        clear hal
        go_upto_region 2 with fail
        go_cut [8] (fun q8 wx => ∃ BX xa xn xc ya yn yc bs, q8 = .pointer (some ⟨BX, 0, none⟩) ∧ LaidQ w1 (cut9 d k) wx BX xa xn xc ya yn yc bs)
        case first =>
          go_region_held3 (fun w' => w'.cell? ⟨w.heap.size + 1, 0, none⟩ = some (.slice a0 n0 c0) ∧ w'.cell? ⟨w.heap.size + 1, 1, none⟩ = some (.slice a n c) ∧ Below w1.heap.size w1 w')
            (first | assumption | exact ⟨by simpa using q1, by simpa using q2, (Below.refl _ _).drew⟩ | exact ⟨by simpa using qa1, by simpa using qa2, Below.drew (below_alloc _ _)⟩ | exact ⟨g1, g2, g3⟩ | exact ⟨cellk (below_alloc _ _) g1, cellk (below_alloc _ _) g2, bnext g3 (below_alloc _ _)⟩ | exact ⟨OnlyAt.cell ((OnlyAt.setCell _ _ _ _).same (OnlyAt.setCell _ _ _ _)) (by simp; omega) g1, OnlyAt.cell ((OnlyAt.setCell _ _ _ _).same (OnlyAt.setCell _ _ _ _)) (by simp; omega) g2, OnlyAt.below g3 ((OnlyAt.setCell _ _ _ _).same (OnlyAt.setCell _ _ _ _)) (fun x hx => by simp at hx; omega)⟩)
            (first
              | (go_at_call 65; (try go_split_ands); refine (HRU.out _).mono ?_; rintro e2 w2 ⟨rfl, hb2⟩; have hs2 := hb2.size; (try simp at hs2); have g1 : w2.cell? ⟨w.heap.size + 1, 0, none⟩ = some (.slice a0 n0 c0) := cellk hb2 (by first | assumption | exact cellk (below_alloc _ _) (by assumption)); have g2 : w2.cell? ⟨w.heap.size + 1, 1, none⟩ = some (.slice a n c) := cellk hb2 (by first | assumption | exact cellk (below_alloc _ _) (by assumption)); have g3 : Below w1.heap.size w1 w2 := bnext (by first | assumption | exact bnext (by assumption) (below_alloc _ _)) hb2; (first | (replace y0 := frok hb2 z0 y0; replace y1 := frok hb2 z1 y1; replace z0 := cellk hb2 z0; replace z1 := cellk hb2 z1) | (have y0 := frok hb2 (newA9 w1 #[.slice none 0 0, .slice none 0 0] 44 0 _ rfl).1 (newA9 w1 #[.slice none 0 0, .slice none 0 0] 44 0 _ rfl).2; have y1 := frok hb2 (newA9 w1 #[.slice none 0 0, .slice none 0 0] 44 1 _ rfl).1 (newA9 w1 #[.slice none 0 0, .slice none 0 0] 44 1 _ rfl).2; have z0 := cellk hb2 (newA9 w1 #[.slice none 0 0, .slice none 0 0] 44 0 _ rfl).1; have z1 := cellk hb2 (newA9 w1 #[.slice none 0 0, .slice none 0 0] 44 1 _ rfl).1) | skip))
              | (go_at_call 86; (try go_split_ands); refine (HWF.out _ (by first | assumption | exact bnext (by assumption) (below_alloc _ _))).mono ?_; rintro e3 w3 ⟨vb, rfl, hvb, hb3⟩; have hs3 := hb3.size; (try simp at hs3); have g1 : w3.cell? ⟨w.heap.size + 1, 0, none⟩ = some (.slice a0 n0 c0) := cellk hb3 (by first | assumption | exact cellk (below_alloc _ _) (by assumption)); have g2 : w3.cell? ⟨w.heap.size + 1, 1, none⟩ = some (.slice a n c) := cellk hb3 (by first | assumption | exact cellk (below_alloc _ _) (by assumption)); have g3 : Below w1.heap.size w1 w3 := bnext (by first | assumption | exact bnext (by assumption) (below_alloc _ _)) hb3; have HVB := Lib.hid hvb; obtain ⟨fa, fn, fc, rfl⟩ := hvb.shape9; (first | (replace y0 := frok hb3 z0 y0; replace y1 := frok hb3 z1 y1; replace z0 := cellk hb3 z0; replace z1 := cellk hb3 z1) | (have y0 := frok hb3 (newA9 w2 #[.slice none 0 0, .slice none 0 0] 44 0 _ rfl).1 (newA9 w2 #[.slice none 0 0, .slice none 0 0] 44 0 _ rfl).2; have y1 := frok hb3 (newA9 w2 #[.slice none 0 0, .slice none 0 0] 44 1 _ rfl).1 (newA9 w2 #[.slice none 0 0, .slice none 0 0] 44 1 _ rfl).2; have z0 := cellk hb3 (newA9 w2 #[.slice none 0 0, .slice none 0 0] 44 0 _ rfl).1; have z1 := cellk hb3 (newA9 w2 #[.slice none 0 0, .slice none 0 0] 44 1 _ rfl).1) | skip))
              | (go_at_call 85; (try go_split_ands); refine (HNX.out _ _ (by first | assumption | exact bnext (by assumption) (below_alloc _ _)) (by first | exact HVB.out | exact HVB.out.below (below_alloc _ _))).mono ?_; rintro e4 w4 ⟨vq, bs, rfl, hq, hfq, hb4⟩; have hs4 := hb4.size; (try simp at hs4); have g1 : w4.cell? ⟨w.heap.size + 1, 0, none⟩ = some (.slice a0 n0 c0) := cellk hb4 (by first | assumption | exact cellk (below_alloc _ _) (by assumption)); have g2 : w4.cell? ⟨w.heap.size + 1, 1, none⟩ = some (.slice a n c) := cellk hb4 (by first | assumption | exact cellk (below_alloc _ _) (by assumption)); have g3 : Below w1.heap.size w1 w4 := bnext (by first | assumption | exact bnext (by assumption) (below_alloc _ _)) hb4; have HQ4 := Lib.hid hq; have HFQ := Lib.hid hfq; obtain ⟨xa, xn, xc, ya, yn, yc, rfl, _⟩ := hq; (first | (replace y0 := frok hb4 z0 y0; replace y1 := frok hb4 z1 y1; replace z0 := cellk hb4 z0; replace z1 := cellk hb4 z1) | (have y0 := frok hb4 (newA9 w3 #[.slice none 0 0, .slice none 0 0] 44 0 _ rfl).1 (newA9 w3 #[.slice none 0 0, .slice none 0 0] 44 0 _ rfl).2; have y1 := frok hb4 (newA9 w3 #[.slice none 0 0, .slice none 0 0] 44 1 _ rfl).1 (newA9 w3 #[.slice none 0 0, .slice none 0 0] 44 1 _ rfl).2; have z0 := cellk hb4 (newA9 w3 #[.slice none 0 0, .slice none 0 0] 44 0 _ rfl).1; have z1 := cellk hb4 (newA9 w3 #[.slice none 0 0, .slice none 0 0] 44 1 _ rfl).1) | skip)))
          all_goals (go_wp2_with fail; go_meet; (try go_split_ands))
          all_goals first
            | exact ⟨_, _, _, _, _, _, _, bs, rfl, laidQ_set HQ4.out HFQ.out.1 (fun b hb => ⟨by have := (HFQ.out.2 b hb).1; (try simp at this); omega, (HFQ.out.2 b hb).2, by have := (HFQ.out.2 b hb).1; (try simp at this); omega⟩) (by omega) (by assumption) z0 z1 y0 y1⟩
            | exact ⟨_, _, _, _, _, _, _, bs, rfl, laidQ_new HQ4.out HFQ.out.1 (fun b hb => ⟨by have := (HFQ.out.2 b hb).1; (try simp at this); omega, (HFQ.out.2 b hb).2⟩) (by assumption)⟩
        case rest =>
          obtain ⟨BX, xa, xn, xc, ya, yn, yc, bs, rfl, hlq⟩ := hcut
          obtain ⟨w5, hw5⟩ : ∃ x, x = wc := ⟨_, rfl⟩
          subst hw5
          have hbb := hlq.2.2.2.2.2.2.2.2.2
          have x0 := hlq.1
          have x1 := hlq.2.1
          replace f0 := frok hbb k0 f0
          replace f1 := frok hbb k1 f1
          replace q0 := cellk hbb q0
          replace q1 := cellk hbb q1
          replace q2 := cellk hbb q2
          replace k0 := cellk hbb k0
          replace k1 := cellk hbb k1
          have HLQ := Lib.hid hlq
          have HB5 := Lib.hid (bnext HB1.out hbb)
          have HQC := Lib.hid (HQX.out w5 _ HB5.out hlq.2.2.2.2.1.rd)
          clear hfd hlq hbb qa1 qa2 HWF HNX HWF0 HNX0
          go_wp2_with fail
          refine HQC.out.mono ?_
          rintro e w6 ⟨rfl, hbb⟩
          have HLQ6 := Lib.hid (HLQ.out.below hbb)
          replace f0 := frok hbb k0 f0
          replace f1 := frok hbb k1 f1
          replace q1 := cellk hbb q1
          replace q2 := cellk hbb q2
          replace k0 := cellk hbb k0
          replace k1 := cellk hbb k1
          replace x0 := cellk hbb x0
          replace x1 := cellk hbb x1
          have HB6 := Lib.hid (bnext HB5.out hbb)
          clear hbb q0
          cases p3 with
          | false =>
            have HWBf : Hid (B = false) := HWB.out _ rfl
            have HWQf : Hid (Q = d) := HWQ.out rfl
            clear HWB HWQ HWQ2
            go_wp2_with fail
            refine (HNQ.out _ HB6.out).mono ?_
            rintro e wc ⟨r, bs, rfl, hr, hfr, hbc⟩
            have HRc := Lib.hid hr
            obtain ⟨ra, rn, rc, ra', rn', rc', rfl, _⟩ := hr
            replace f0 := frok hbc k0 f0
            replace f1 := frok hbc k1 f1
            replace k0 := cellk hbc k0
            replace k1 := cellk hbc k1
            have HBc := Lib.hid (bnext HB6.out hbc)
            have HFc := Lib.hid hfr
            have hlo := (Below.size HB6.out)
            clear hbc hfr
            go_wp2_with fail
            have hk : OnlyAt [w.heap.size + 1 + 1] wc ((wc.setCell ⟨w.heap.size + 1 + 1, 0, none⟩ (.slice ra rn rc)).setCell ⟨w.heap.size + 1 + 1, 1, none⟩ (.slice ra' rn' rc')) := (OnlyAt.setCell wc _ _ _).same (OnlyAt.setCell _ _ _ _)
            exact bodyPost_ret (v := .tuple #[.agg #[.slice ra rn rc, .slice ra' rn' rc'], .bool false]) (by simp [results, Try.results45, go_sem, k0, k1]) rfl ⟨_, _, _, _, _, _, bs, by rw [HWBf.out], by rw [HWQf.out]; exact HRc.out.onlyAt hk (fun b hb hm => by have := (HFc.out.2 b hb).1; have := HSZ.out; have := HLQ6.out.2.2.2.2.2.2.2.2.2.size; simp at hm; omega), ⟨HFc.out.1, fun b hb => ⟨by have := (HFc.out.2 b hb).1; omega, Nat.lt_of_lt_of_le (HFc.out.2 b hb).2 hk.size⟩⟩, OnlyAt.below HBc.out hk (fun x hx => by simp at hx; omega)⟩
          | true =>
            have HWBt : Hid (B = true) := HWB.out _ rfl
            have HWQt : Hid (Q = cut9 d k) := HWQ2.out rfl
            clear HWB HWQ HWQ2
            go_wp2_with fail
            have hk : OnlyAt [w.heap.size + 1 + 1] w6 ((w6.setCell ⟨w.heap.size + 1 + 1, 0, none⟩ (.slice xa xn xc)).setCell ⟨w.heap.size + 1 + 1, 1, none⟩ (.slice ya yn yc)) := (OnlyAt.setCell w6 _ _ _).same (OnlyAt.setCell _ _ _ _)
            obtain ⟨_, _, _, _, hro, hnd, hlo, _, _, _⟩ := HLQ6.out
            exact bodyPost_ret (v := .tuple #[.agg #[.slice xa xn xc, .slice ya yn yc], .bool true]) (by simp [results, Try.results45, go_sem, k0, k1]) rfl ⟨_, _, _, _, _, _, bs, by rw [HWBt.out], by rw [HWQt.out]; exact hro.onlyAt hk (fun b hb hm => by have := (hlo b hb).1; simp at hm; omega), ⟨hnd, fun b hb => ⟨by have := (hlo b hb).1; omega, Nat.lt_of_lt_of_le (hlo b hb).2.1 hk.size⟩⟩, OnlyAt.below HB6.out hk (fun x hx => by simp at hx; omega)⟩
      · have HP2f : p2 = false := by rw [← HP2.out]; simp [inB]; omega
        subst HP2f
        have HWBf : Hid (B = false) := HWB.out _ rfl
        have HWQf : Hid (Q = d) := HWQ.out rfl
        clear HWB HWQ HWQ2
        go_wp2_with fail
        refine (HNQ.out _ HB1.out).mono ?_
        rintro e wc ⟨r, bs, rfl, hr, hfr, hbc⟩
        have HRc := Lib.hid hr
        obtain ⟨ra, rn, rc, ra', rn', rc', rfl, _⟩ := hr
        replace f0 := frok hbc k0 f0
        replace f1 := frok hbc k1 f1
        replace k0 := cellk hbc k0
        replace k1 := cellk hbc k1
        have HBc := Lib.hid (bnext HB1.out hbc)
        have HFc := Lib.hid hfr
        have hlo := (Below.size HB1.out)
        clear hbc hfr
        go_wp2_with fail
        have hk : OnlyAt [w.heap.size + 1 + 1] wc ((wc.setCell ⟨w.heap.size + 1 + 1, 0, none⟩ (.slice ra rn rc)).setCell ⟨w.heap.size + 1 + 1, 1, none⟩ (.slice ra' rn' rc')) := (OnlyAt.setCell wc _ _ _).same (OnlyAt.setCell _ _ _ _)
        exact bodyPost_ret (v := .tuple #[.agg #[.slice ra rn rc, .slice ra' rn' rc'], .bool false]) (by simp [results, Try.results45, go_sem, k0, k1]) rfl ⟨_, _, _, _, _, _, bs, by rw [HWBf.out], by rw [HWQf.out]; exact HRc.out.onlyAt hk (fun b hb hm => by have := (HFc.out.2 b hb).1; have := HSZ.out; simp at hm; omega), ⟨HFc.out.1, fun b hb => ⟨by have := (HFc.out.2 b hb).1; omega, Nat.lt_of_lt_of_le (HFc.out.2 b hb).2 hk.size⟩⟩, OnlyAt.below HBc.out hk (fun x hx => by simp at hx; omega)⟩
    · have HP2f : p2 = false := by rw [← HP2.out]; simp [inB]; omega
      subst HP2f
      have HWBf : Hid (B = false) := HWB.out _ rfl
      have HWQf : Hid (Q = d) := HWQ.out rfl
      clear HWB HWQ HWQ2
      go_wp2_with fail
      refine (HNQ.out _ HB1.out).mono ?_
      rintro e wc ⟨r, bs, rfl, hr, hfr, hbc⟩
      have HRc := Lib.hid hr
      obtain ⟨ra, rn, rc, ra', rn', rc', rfl, _⟩ := hr
      replace f0 := frok hbc k0 f0
      replace f1 := frok hbc k1 f1
      replace k0 := cellk hbc k0
      replace k1 := cellk hbc k1
      have HBc := Lib.hid (bnext HB1.out hbc)
      have HFc := Lib.hid hfr
      have hlo := (Below.size HB1.out)
      clear hbc hfr
      go_wp2_with fail
      have hk : OnlyAt [w.heap.size + 1 + 1] wc ((wc.setCell ⟨w.heap.size + 1 + 1, 0, none⟩ (.slice ra rn rc)).setCell ⟨w.heap.size + 1 + 1, 1, none⟩ (.slice ra' rn' rc')) := (OnlyAt.setCell wc _ _ _).same (OnlyAt.setCell _ _ _ _)
      exact bodyPost_ret (v := .tuple #[.agg #[.slice ra rn rc, .slice ra' rn' rc'], .bool false]) (by simp [results, Try.results45, go_sem, k0, k1]) rfl ⟨_, _, _, _, _, _, bs, by rw [HWBf.out], by rw [HWQf.out]; exact HRc.out.onlyAt hk (fun b hb hm => by have := (HFc.out.2 b hb).1; have := HSZ.out; simp at hm; omega), ⟨HFc.out.1, fun b hb => ⟨by have := (HFc.out.2 b hb).1; omega, Nat.lt_of_lt_of_le (HFc.out.2 b hb).2 hk.size⟩⟩, OnlyAt.below HBc.out hk (fun x hx => by simp at hx; omega)⟩
theorem iWithout_any (w : World) (vs v : Value) (s : List Int) (d : QueryD) (i : Int) (hvs : RdSchema w vs s) (h : RdQuery w v d) (hz : sizeQuery d ≤ 1048576) :
    Calls Try.prog 45 #[vs, v, .int .i64 i] w (GaveQB w (woQ s d i) (woB s d i)) :=
  (iWithoutO_any w vs v s d i hvs h hz).mono fun e w' ⟨a, n, c, a', n', c', bs, he, hr, _, hb⟩ => ⟨a, n, c, a', n', c', he, hr.rd, hb⟩

end Go.Proofs.Ytgnlglfppeepeaa
