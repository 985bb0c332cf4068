/- Contracts of chapter 9's impl: newQuery, WithoutAtom, IsRedundant. -/
import Derived.Test.YtpedpbbiamhgdaaI9a
import Derived.Deep.RegionHeld3
namespace Go.Proofs.Ytpedpbbiamhgdaa
open Go Go.Sort Go.RowKit
set_option linter.unusedVariables false

theorem RdAtomS.shape9 {w : World} {v : Value} {l : List AtomD} (h : RdAtomS w v l) : ∃ a n c, v = .slice a n c := by
  obtain ⟨a, n, c, rfl, _⟩ := h; exact ⟨a, n, c, rfl⟩
set_option maxHeartbeats 4000000 in
theorem iNewQuery_any (w : World) (va vb : Value) (hd : List Int) (bd : List AtomD) (h1 : Ints w va hd) (h2 : RdAtomS w vb bd) (hz : hd.length + sizeAtomS bd ≤ 1048576) :
    Calls Try.prog 49 #[va, vb] w (GaveO (fun w' v' bs => ROQuery w' v' (hd, bd) bs) w) := by
  obtain ⟨a0, n0, c0, rfl⟩ := h1.shape
  obtain ⟨a, n, c, rfl, h2⟩ := h2
  have HR := Lib.hid (fun W (hb : Below w.heap.size w W) => iRenameQuery_any W (.agg #[.slice a0 n0 c0, .slice a n c]) (.slice none 0 0) (hd, bd) [] ⟨_, _, _, _, _, _, rfl, h1.below hb, RdSl.below h2 (fun _ _ h => h.below hb) hb⟩ (Ints.nil W) hz)
  rw [renQ_nil9] at HR
  clear h1 h2
  go_enter Try.func49, Try.ntmps49
  go_wp2_with fail
  obtain ⟨W, hW⟩ : ∃ W, W = w.alloc (.cells #[.slice none 0 0, .slice none 0 0] 30) := ⟨_, rfl⟩
  have hbw : Below w.heap.size w W := by rw [hW]; exact below_alloc _ _
  have k0 : W.cell? ⟨w.heap.size, 0, none⟩ = some (.slice none 0 0) := by rw [hW]; simp
  have k1 : W.cell? ⟨w.heap.size, 1, none⟩ = some (.slice none 0 0) := by rw [hW]; simp
  have f0 : W.frozen? ⟨w.heap.size, 0, none⟩ = false := by rw [hW]; simp
  have f1 : W.frozen? ⟨w.heap.size, 1, none⟩ = false := by rw [hW]; simp
  have hsz : W.heap.size = w.heap.size + 1 := by rw [hW]; simp
  rw [← hW]
  clear hW
  refine (HR.out _ hbw).mono ?_
  rintro e w1 ⟨r, bs, rfl, hr, hfr, hbb⟩
  replace f0 := frok hbb k0 f0
  replace f1 := frok hbb k1 f1
  replace k0 := cellk hbb k0
  replace k1 := cellk hbb k1
  have HR1 := Lib.hid hr
  have HF1 := Lib.hid hfr
  have HB1 := Lib.hid (bnext hbw hbb)
  obtain ⟨ra, rn, rc, ra', rn', rc', rfl, _⟩ := hr
  clear hbb hfr hbw
  go_wp2_with fail
  have hk : OnlyAt [w.heap.size] w1 ((w1.setCell ⟨w.heap.size, 0, none⟩ (.slice ra rn rc)).setCell ⟨w.heap.size, 1, none⟩ (.slice ra' rn' rc')) := (OnlyAt.setCell w1 _ _ _).same (OnlyAt.setCell _ _ _ _)
  exact bodyPost_ret (v := .agg #[.slice ra rn rc, .slice ra' rn' rc']) (by simp [results, Try.results49, go_sem, k0, k1]) rfl ⟨_, bs, rfl, HR1.out.onlyAt hk (fun b hb hm => by have := (HF1.out.2 b hb).1; simp at hm; omega), ⟨HF1.out.1, fun b hb => ⟨by have := (HF1.out.2 b hb).1; omega, Nat.lt_of_lt_of_le (HF1.out.2 b hb).2 hk.size⟩⟩, OnlyAt.below HB1.out hk (fun x hx => by simp at hx; omega)⟩

/-- A query of its own memory laid into a box. -/
def LaidQ (W : World) (q : QueryD) (wx : World) (B : Nat) (a : Option Addr) (n c : Nat) (a' : Option Addr) (n' c' : Nat) (bs : List Nat) : Prop :=
  wx.cell? ⟨B, 0, none⟩ = some (.slice a n c) ∧ wx.cell? ⟨B, 1, none⟩ = some (.slice a' n' c') ∧ wx.frozen? ⟨B, 0, none⟩ = false ∧ wx.frozen? ⟨B, 1, none⟩ = false ∧ ROQuery wx (.agg #[.slice a n c, .slice a' n' c']) q bs ∧ bs.Nodup ∧ (∀ b ∈ bs, W.heap.size ≤ b ∧ b < wx.heap.size ∧ b ≠ B) ∧ W.heap.size ≤ B ∧ B < wx.heap.size ∧ Below W.heap.size W wx
theorem laidQ_set {W w4 : World} {q : QueryD} {B : Nat} {a : Option Addr} {n c : Nat} {a' : Option Addr} {n' c' : Nat} {bs : List Nat} {u u' : Value} (hro : ROQuery w4 (.agg #[.slice a n c, .slice a' n' c']) q bs) (hnd : bs.Nodup) (hlo : ∀ b ∈ bs, W.heap.size ≤ b ∧ b < w4.heap.size ∧ b ≠ B) (hB : W.heap.size ≤ B) (hb : Below W.heap.size W w4) (z0 : w4.cell? ⟨B, 0, none⟩ = some u) (z1 : w4.cell? ⟨B, 1, none⟩ = some u') (y0 : w4.frozen? ⟨B, 0, none⟩ = false) (y1 : w4.frozen? ⟨B, 1, none⟩ = false) :
    LaidQ W q ((w4.setCell ⟨B, 0, none⟩ (.slice a n c)).setCell ⟨B, 1, none⟩ (.slice a' n' c')) B a n c a' n' c' bs := by
  have hk : OnlyAt [B] w4 ((w4.setCell ⟨B, 0, none⟩ (.slice a n c)).setCell ⟨B, 1, none⟩ (.slice a' n' c')) := (OnlyAt.setCell w4 _ _ _).same (OnlyAt.setCell _ _ _ _)
  have e1 : (w4.setCell ⟨B, 0, none⟩ (.slice a n c)).cell? ⟨B, 0, none⟩ = some (.slice a n c) := World.cell?_setCell_same _ _ _ z0
  have e2 : (w4.setCell ⟨B, 0, none⟩ (.slice a n c)).cell? ⟨B, 1, none⟩ = some u' := by rw [World.cell?_setCell_other _ _ _ _ (by intro e; cases e)]; exact z1
  refine ⟨?_, World.cell?_setCell_same _ _ _ e2, by simpa using y0, by simpa using y1, hro.onlyAt hk (fun b hb' hm => (hlo b hb').2.2 (by simpa using hm)), hnd, fun b hb' => ⟨(hlo b hb').1, Nat.lt_of_lt_of_le (hlo b hb').2.1 hk.size, (hlo b hb').2.2⟩, hB, Nat.lt_of_lt_of_le (World.block_lt_of_cell? _ _ z0) hk.size, OnlyAt.below hb hk (fun b hb' => by simp at hb'; omega)⟩
  rw [World.cell?_setCell_other _ _ _ _ (by intro e; cases e)]; exact e1
theorem laidQ_new {W w4 : World} {q : QueryD} {a : Option Addr} {n c : Nat} {a' : Option Addr} {n' c' : Nat} {bs : List Nat} {T : TypeId} (hro : ROQuery w4 (.agg #[.slice a n c, .slice a' n' c']) q bs) (hnd : bs.Nodup) (hlo : ∀ b ∈ bs, W.heap.size ≤ b ∧ b < w4.heap.size) (hb : Below W.heap.size W w4) :
    LaidQ W q (w4.alloc (.cells #[.slice a n c, .slice a' n' c'] T)) w4.heap.size a n c a' n' c' bs := by
  exact ⟨by simp, by simp, by simp, by simp, hro.below (below_alloc _ _), hnd, fun b hb' => ⟨(hlo b hb').1, by have := (hlo b hb').2; simp; omega, by have := (hlo b hb').2; omega⟩, hb.size, by simp, bnext hb (below_alloc _ _)⟩
theorem LaidQ.below {W wx w' : World} {q : QueryD} {B : Nat} {a : Option Addr} {n c : Nat} {a' : Option Addr} {n' c' : Nat} {bs : List Nat} (h : LaidQ W q wx B a n c a' n' c' bs) (hb : Below wx.heap.size wx w') : LaidQ W q w' B a n c a' n' c' bs := by
  obtain ⟨h1, h2, h3, h4, h5, h6, h7, h8, h9, h10⟩ := h
  exact ⟨cellk hb h1, cellk hb h2, frok hb h1 h3, frok hb h2 h4, h5.below hb, h6, fun b hb' => ⟨(h7 b hb').1, Nat.lt_of_lt_of_le (h7 b hb').2.1 hb.size, (h7 b hb').2.2⟩, h8, Nat.lt_of_lt_of_le h9 hb.size, bnext h10 hb⟩

/-- A call that answers a query of its own memory that reads as d, and b. -/
def GaveQBo (w : World) (d : QueryD) (b : Bool) (e : Ending) (w' : World) : Prop := ∃ a n c a' n' c' bs, e = .returned (.tuple #[.agg #[.slice a n c, .slice a' n' c'], .bool b]) ∧ ROQuery w' (.agg #[.slice a n c, .slice a' n' c']) d bs ∧ Fresh w w' bs ∧ Below w.heap.size w w'
end Go.Proofs.Ytpedpbbiamhgdaa
