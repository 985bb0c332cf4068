/- Merged of M9, S9a, LaidS, S9b, S9c, S9d. -/
import Derived.Test.YtpedpbbiamhgdaaS7M
import Derived.Test.YtpedpbbiamhgdaaSfineV
import Derived.Test.YtpedpbbiamhgdaaSq4all
import Derived.Test.YtpedpbbiamhgdaaC8con
import Derived.Test.YtpedpbbiamhgdaaSrename3
import Derived.Test.YtpedpbbiamhgdaaBase
import Derived.Deep.RegionLaw
import Derived.Deep.RegionHeld3
import Derived.Lib.QuietBelow
import Derived.BigQuiet
/-! M9 -/
namespace Go.Proofs.Ytpedpbbiamhgdaa
open Go Go.RowKit
set_option linter.unusedVariables false

theorem termTo_nil9 (t : Int) : termTo [] t = t := by
  unfold termTo
  have h : inB t 0 ((([] : List Int).length : Int) - 1) = false := by
    simp [inB]; omega
  rw [h]; rfl
theorem map_nil9 (l : List Int) : l.map (termTo []) = l := by
  induction l with
  | nil => rfl
  | cons a l ih => rw [List.map_cons, ih, termTo_nil9]
theorem renA_nil9 (l : List AtomD) : l.map (renA []) = l := by
  induction l with
  | nil => rfl
  | cons a l ih => rw [List.map_cons, ih]; unfold renA; rw [map_nil9]
theorem renQ_nil9 (d : QueryD) : renQ d [] = d := by
  unfold renQ; rw [map_nil9, renA_nil9]

def cutA (l : List AtomD) (i : Nat) : List AtomD := l.take i ++ l.drop (i + 1)
def cut9 (q : QueryD) (i : Nat) : QueryD := (q.1, cutA q.2 i)
theorem cutA_sub (l : List AtomD) (i : Nat) : List.Sublist (cutA l i) l := by
  unfold cutA
  have h : List.Sublist (l.drop (i + 1)) (l.drop i) := by
    rw [← List.drop_drop]; exact List.drop_sublist _ _
  have := (List.Sublist.refl (l.take i)).append h
  rwa [List.take_append_drop] at this
theorem sumArgs_sub9 {l m : List AtomD} (h : List.Sublist m l) : sumArgs m ≤ sumArgs l := by
  induction h with
  | slnil => exact Nat.le_refl _
  | cons a _ ih => unfold sumArgs at *; simp; omega
  | cons_cons a _ ih => unfold sumArgs at *; simp; omega
theorem size_sub9 {l m : List AtomD} (h : List.Sublist m l) : sizeAtomS m ≤ sizeAtomS l := by
  have h1 := sumArgs_sub9 h
  have h2 := h.length_le
  unfold sizeAtomS; omega
theorem cutA_len {l : List AtomD} {i : Nat} (h : i < l.length) : (cutA l i).length + 1 = l.length := by
  unfold cutA; simp; omega
theorem cut9_size (q : QueryD) (i : Nat) : sizeAtomS (cut9 q i).2 ≤ sizeAtomS q.2 := size_sub9 (cutA_sub _ _)

def woB (s : List Int) (q : QueryD) (i : Int) : Bool := fineB s q 4 && (inB i 0 ((q.2.length : Int) - 1) && fineB s (cut9 q i.toNat) 4)
def woQ (s : List Int) (q : QueryD) (i : Int) : QueryD := if woB s q i then cut9 q i.toNat else q
theorem woQ_size (s : List Int) (q : QueryD) (i : Int) : sizeAtomS (woQ s q i).2 ≤ sizeAtomS q.2 := by
  unfold woQ; split
  · exact cut9_size _ _
  · exact Nat.le_refl _
theorem woQ_m (s : List Int) (q : QueryD) (i : Int) (h : sizeQuery q ≤ 1048576) : mQuery (woQ s q i) ≤ 1048576 := by
  have h1 := woQ_size s q i
  unfold mQuery sizeQuery at *
  rw [mAtomS_size]
  have h2 : (woQ s q i).1 = q.1 := by unfold woQ; split <;> rfl
  rw [h2]; omega
def redB (s : List Int) (q : QueryD) (i : Int) : Bool := woB s q i && (conB8 s (woQ s q i) q && conB8 s q (woQ s q i))
theorem redB_in {s : List Int} {q : QueryD} {i : Int} (h : redB s q i = true) : 0 ≤ i ∧ i.toNat < q.2.length ∧ woQ s q i = cut9 q i.toNat ∧ woB s q i = true ∧ fineB s q 4 = true := by
  unfold redB at h
  rw [Bool.and_eq_true] at h
  have h2 := h.1
  have h3 : woQ s q i = cut9 q i.toNat := by unfold woQ; rw [if_pos h2]
  unfold woB at h2
  rw [Bool.and_eq_true, Bool.and_eq_true] at h2
  have h4 := h2.2.1
  simp [inB] at h4
  exact ⟨by omega, by omega, h3, h.1, h2.1⟩
theorem redB_fine {s : List Int} {q : QueryD} (h : fineB s q 4 = false) (i : Int) : redB s q i = false := by
  cases hr : redB s q i with
  | false => rfl
  | true => have := (redB_in hr).2.2.2.2; rw [h] at this; cases this

def frN (s : List Int) (q : QueryD) : Option Nat := (List.range q.2.length).find? (fun i => redB s q (i : Int))
theorem frN_none {s : List Int} {q : QueryD} (h : ∀ j < q.2.length, redB s q (j : Int) = false) : frN s q = none := by
  unfold frN
  rw [List.find?_eq_none]
  intro x hx
  rw [h x (List.mem_range.1 hx)]; simp
theorem find_first9 (p : Nat → Bool) (n i : Nat) (hi : i < n) (h : ∀ j < i, p j = false) (hp : p i = true) : (List.range n).find? p = some i := by
  rw [List.find?_range_eq_some]
  exact ⟨hp, List.mem_range.2 hi, fun j hj => by rw [h j hj]; rfl⟩
theorem frN_some {s : List Int} {q : QueryD} {i : Nat} (hi : i < q.2.length) (h : ∀ j < i, redB s q (j : Int) = false) (hr : redB s q (i : Int) = true) : frN s q = some i := find_first9 _ _ _ hi h hr
theorem frN_in {s : List Int} {q : QueryD} {i : Nat} (h : frN s q = some i) : redB s q (i : Int) = true := by
  unfold frN at h
  have := List.find?_some (p := fun i : Nat => redB s q (i : Int)) h
  exact this
def minN : Nat → List Int → QueryD → QueryD
  | 0, _, q => q
  | k + 1, s, q => match frN s q with
    | none => q
    | some i => minN k s (cut9 q i)
def minQ (s : List Int) (q : QueryD) : QueryD := minN q.2.length s q
theorem minQ_end {s : List Int} {q : QueryD} (h : frN s q = none) : minQ s q = q := by
  unfold minQ
  cases hn : q.2.length with
  | zero => rfl
  | succ k => unfold minN; rw [h]
theorem minQ_step {s : List Int} {q : QueryD} {i : Nat} (h : frN s q = some i) : minQ s q = minQ s (cut9 q i) := by
  have hi := (redB_in (frN_in h)).2.1
  rw [Int.toNat_natCast] at hi
  have hl : (cut9 q i).2.length + 1 = q.2.length := cutA_len hi
  have he : minQ s (cut9 q i) = minN (cut9 q i).2.length s (cut9 q i) := rfl
  rw [he]
  unfold minQ
  rw [← hl]
  show (match frN s q with | none => q | some i => minN _ s (cut9 q i)) = _
  rw [h]
theorem minN_sub : ∀ (k : Nat) (s : List Int) (q : QueryD), List.Sublist (minN k s q).2 q.2 ∧ (minN k s q).1 = q.1
  | 0, _, q => ⟨List.Sublist.refl _, rfl⟩
  | k + 1, s, q => by
    unfold minN
    split
    · exact ⟨List.Sublist.refl _, rfl⟩
    · have := minN_sub k s (cut9 q ‹_›)
      exact ⟨this.1.trans (cutA_sub _ _), this.2⟩
theorem minQ_m (s : List Int) (q : QueryD) (h : sizeQuery q ≤ 1048576) : mQuery (minQ s q) ≤ 1048576 := by
  have h1 := minN_sub q.2.length s q
  have h2 := size_sub9 h1.1
  unfold mQuery sizeQuery minQ at *
  rw [mAtomS_size, h1.2]; omega
theorem minQ_not {s : List Int} {q : QueryD} (h : fineB s q 4 = false) : minQ s q = q := minQ_end (frN_none (fun j _ => redB_fine h _))
def minB (s : List Int) (q : QueryD) : Bool := fineB s q 4 && (frN s q).isNone
theorem fine_len9 {s : List Int} {q : QueryD} (h : fineB s q 4 = true) : q.2.length ≤ 4 := by
  unfold fineB at h
  simp only [Bool.and_eq_true, inB] at h
  have := h.2.2.1
  simp at this
  omega

/-- The atoms without those that are equal to an earlier one. -/
def ddA (l : List AtomD) : List AtomD := l.foldl (fun acc a => if a ∈ acc then acc else acc ++ [a]) []
theorem ddA_snoc (l : List AtomD) (a : AtomD) : ddA (l ++ [a]) = if a ∈ ddA l then ddA l else ddA l ++ [a] := by
  unfold ddA; rw [List.foldl_append]; rfl
theorem ddA_take {l : List AtomD} {i : Nat} {a : AtomD} (h : l[i]? = some a) : ddA (l.take (i + 1)) = if a ∈ ddA (l.take i) then ddA (l.take i) else ddA (l.take i) ++ [a] := by
  obtain ⟨hi, rfl⟩ := List.getElem?_eq_some_iff.1 h
  rw [List.take_succ_eq_append_getElem hi, ddA_snoc]
theorem ddA_mem (l : List AtomD) : ∀ a, a ∈ ddA l ↔ a ∈ l := by
  have H : ∀ (l acc : List AtomD) (a : AtomD), a ∈ l.foldl (fun acc a => if a ∈ acc then acc else acc ++ [a]) acc ↔ a ∈ acc ∨ a ∈ l := by
    intro l
    induction l with
    | nil => intro acc a; simp
    | cons x l ih =>
      intro acc a
      rw [List.foldl_cons, ih]
      split
      · rename_i hx
        constructor
        · rintro (h | h)
          · exact .inl h
          · exact .inr (List.mem_cons_of_mem _ h)
        · rintro (h | h)
          · exact .inl h
          · rcases List.mem_cons.1 h with rfl | h
            · exact .inl hx
            · exact .inr h
      · rw [List.mem_append, List.mem_singleton, List.mem_cons]
        constructor
        · rintro ((h | h) | h)
          · exact .inl h
          · exact .inr (.inl h)
          · exact .inr (.inr h)
        · rintro (h | h | h)
          · exact .inl (.inl h)
          · exact .inl (.inr h)
          · exact .inr h
  intro a; unfold ddA; rw [H]; simp
theorem ddA_size (l : List AtomD) : sizeAtomS (ddA l) ≤ sizeAtomS l := by
  have H : ∀ (l acc : List AtomD), sizeAtomS (l.foldl (fun acc a => if a ∈ acc then acc else acc ++ [a]) acc) ≤ sizeAtomS acc + sizeAtomS l := by
    intro l
    induction l with
    | nil => intro acc; simp [sizeAtomS, sumArgs]
    | cons x l ih =>
      intro acc
      rw [List.foldl_cons]
      refine Nat.le_trans (ih _) ?_
      split
      · simp [sizeAtomS, sumArgs]; omega
      · simp [sizeAtomS, sumArgs]; omega
  have := H l []
  unfold ddA; simpa [sizeAtomS, sumArgs] using this
theorem ddA_len (l : List AtomD) : (ddA l).length ≤ l.length := by
  have H : ∀ (l acc : List AtomD), (l.foldl (fun acc a => if a ∈ acc then acc else acc ++ [a]) acc).length ≤ acc.length + l.length := by
    intro l
    induction l with
    | nil => intro acc; simp
    | cons x l ih =>
      intro acc
      rw [List.foldl_cons]
      refine Nat.le_trans (ih _) ?_
      split
      · simp <;> omega
      · simp <;> omega
  have := H l []
  unfold ddA; simpa using this
def ddQ (q : QueryD) : QueryD := (q.1, ddA q.2)
theorem ddQ_m (q : QueryD) (h : sizeQuery q ≤ 1048576) : mQuery (ddQ q) ≤ 1048576 := by
  have h1 := ddA_size q.2
  unfold mQuery sizeQuery ddQ at *
  rw [mAtomS_size]; simp only; omega
end Go.Proofs.Ytpedpbbiamhgdaa

/-! S9a -/
namespace Go.Proofs.Ytpedpbbiamhgdaa
open Go Go.Sort Go.RowKit
set_option linter.unusedVariables false

/-- A block of which every cell is a slice: no number and no atom lies in it. -/
def SlB (w : World) (B : Nat) : Prop := ∀ o x, w.cell? ⟨B, o, none⟩ = some x → ∃ a n c, x = .slice a n c
theorem SlB.below {w w' : World} {B : Nat} (h : SlB w B) (hlt : B < w.heap.size) (hb : Below w.heap.size w w') : SlB w' B := fun o x hx => h o x (by rw [← hb.cell (p := ⟨B, o, none⟩) hlt]; exact hx)
theorem SlB.new (w : World) (a a' : Option Addr) (n c n' c' : Nat) (T : TypeId) : SlB (w.alloc (.cells #[.slice a n c, .slice a' n' c'] T)) w.heap.size := by
  intro o x hx
  unfold World.cell? at hx
  rw [heap_alloc_new w] at hx
  match o, hx with
  | 0, hx => simp at hx; exact ⟨_, _, _, hx.symm⟩
  | 1, hx => simp at hx; exact ⟨_, _, _, hx.symm⟩
  | k + 2, hx => simp at hx
theorem Ints.offS {w w' : World} {v : Value} {l : List Int} {B : Nat} (h : Ints w v l) (ko : OnlyAt [B] w w') (hB : SlB w B) : Ints w' v l := by
  refine h.onlyAt ko fun b off n c hv hn hb => ?_
  obtain ⟨a, n', cap, e, hl, hn', hm, hc⟩ := h.cases
  rw [hv] at e; cases e
  obtain ⟨b2, off2, e2, hlt, hc⟩ := hc hn
  cases e2
  have hbB : b = B := by simpa using hb
  subst hbB
  obtain ⟨_, _, _, e3⟩ := hB _ _ (hc 0 hn)
  cases e3
theorem RdQuery.offS {w w' : World} {v : Value} {d : QueryD} {B : Nat} (h : RdQuery w v d) (ko : OnlyAt [B] w w') (hB : SlB w B) : RdQuery w' v d := by
  obtain ⟨a, n, c, a', n', c', rfl, hi, ha⟩ := h
  refine ⟨a, n, c, a', n', c', rfl, hi.offS ko hB, ?_⟩
  obtain ⟨a2, n2, cap, e, hl, hn', hm, hc⟩ := ha
  cases e
  refine ⟨_, _, _, rfl, hl, hn', hm, fun h0 => ?_⟩
  obtain ⟨b, off, rfl, hlt, hc⟩ := hc h0
  refine ⟨b, off, rfl, Nat.lt_of_lt_of_le hlt ko.size, fun j hj => ?_⟩
  have hne : b ∉ [B] := by
    intro hb
    have hbB : b = B := by simpa using hb
    subst hbB
    obtain ⟨cs, hcs, hcl, _, _, _, rfl, _⟩ := hc 0 (by omega)
    obtain ⟨_, _, _, e3⟩ := hB _ _ ((hcl 0 (by omega)).trans (by rfl))
    cases e3
  obtain ⟨cs, h1, h2, ea, en, ec, rfl, hi3, hint⟩ := hc j hj
  exact ⟨_, h1, fun i hi => by rw [← h2 i hi]; exact World.cell?_of_block (ko.block b hlt hne), ea, en, ec, rfl, hi3, hint.offS ko hB⟩
theorem Ints.lit0 (w : World) (a : Option Addr) : Ints w (.slice a 0 0) [] := ⟨fun x h => by simp at h, .inl ⟨a, 0, rfl, Nat.zero_le _, rfl⟩⟩
theorem SlB.newAt {w W : World} {B : Nat} {a a' : Option Addr} {n c n' c' : Nat} {T : TypeId} (h : W.heap[B]? = some (.cells #[.slice a n c, .slice a' n' c'] T)) : SlB W B := by
  intro o x hx
  unfold World.cell? at hx
  rw [h] at hx
  match o, hx with
  | 0, hx => simp at hx; exact ⟨_, _, _, hx.symm⟩
  | 1, hx => simp at hx; exact ⟨_, _, _, hx.symm⟩
  | k + 2, hx => simp at hx

theorem newFrz (w : World) (cs : Array Value) (T : TypeId) (i : Nat) : (w.alloc (.cells cs T)).frozen? ⟨w.heap.size, i, none⟩ = false := by simp
theorem frz2 (w : World) (o1 : Obj) (cs : Array Value) (T : TypeId) (o3 : Obj) (i : Nat) (v : Value) (h : cs[i]? = some v) : (((w.alloc o1).alloc (.cells cs T)).alloc o3).frozen? ⟨w.heap.size + 1, i, none⟩ = false := by
  have e : (w.alloc o1).heap.size = w.heap.size + 1 := by simp
  have h1 := newBox (w.alloc o1) cs T i v h
  have h2 := newFrz (w.alloc o1) cs T i
  rw [e] at h1 h2
  exact frok (below_alloc _ _) h1 h2
theorem frz3 (w : World) (o1 o2 : Obj) (cs : Array Value) (T : TypeId) (i : Nat) : (((w.alloc o1).alloc o2).alloc (.cells cs T)).frozen? ⟨w.heap.size + 1 + 1, i, none⟩ = false := by
  have e : ((w.alloc o1).alloc o2).heap.size = w.heap.size + 1 + 1 := by simp
  have h2 := newFrz ((w.alloc o1).alloc o2) cs T i
  rw [e] at h2
  exact h2
/-- A call that answers a query that reads as d. -/
def GaveQ (w : World) (d : QueryD) (e : Ending) (w' : World) : Prop := ∃ a n c a' n' c', e = .returned (.agg #[.slice a n c, .slice a' n' c']) ∧ RdQuery w' (.agg #[.slice a n c, .slice a' n' c']) d ∧ Below w.heap.size w w'

end Go.Proofs.Ytpedpbbiamhgdaa

/-! LaidS -/
namespace Go.Proofs.Ytpedpbbiamhgdaa
open Go Go.Sort Go.RowKit
set_option linter.unusedVariables false

theorem zbk {w w' : World} {B : Nat} {o : Obj} (hb : Below w.heap.size w w') (hz : w.heap[B]? = some o) : w'.heap[B]? = some o := (hb.block B (Array.getElem?_eq_some_iff.1 hz).1).trans hz
theorem zb_lt {w : World} {B : Nat} {o : Obj} (hz : w.heap[B]? = some o) : B < w.heap.size := (Array.getElem?_eq_some_iff.1 hz).1
def LaidR (w0 : World) (q : QueryD) (wx : World) (B : Nat) (a : Option Addr) (n c : Nat) (a' : Option Addr) (n' c' : Nat) : Prop :=
  wx.cell? ⟨B, 0, none⟩ = some (.slice a n c) ∧ wx.cell? ⟨B, 1, none⟩ = some (.slice a' n' c') ∧ RdQuery wx (.agg #[.slice a n c, .slice a' n' c']) q ∧ w0.heap.size ≤ B ∧ B < wx.heap.size ∧ Below w0.heap.size w0 wx
def LaidO (w0 : World) (q : QueryD) (wx : World) (B : Nat) (a : Option Addr) (n c : Nat) (a' : Option Addr) (n' c' : Nat) (bs : List Nat) : Prop :=
  wx.cell? ⟨B, 0, none⟩ = some (.slice a n c) ∧ wx.cell? ⟨B, 1, none⟩ = some (.slice a' n' c') ∧ ROQuery wx (.agg #[.slice a n c, .slice a' n' c']) q bs ∧ Fresh w0 wx bs ∧ B ∉ bs ∧ w0.heap.size ≤ B ∧ B < wx.heap.size ∧ Below w0.heap.size w0 wx
theorem zb_cell {w : World} {B : Nat} {T : TypeId} {x y : Value} (hz : w.heap[B]? = some (.cells #[x, y] T)) : w.cell? ⟨B, 0, none⟩ = some x ∧ w.cell? ⟨B, 1, none⟩ = some y := by
  unfold World.cell?
  rw [hz]
  exact ⟨by simp, by simp⟩
theorem zb_froz {w : World} {B : Nat} {T : TypeId} {x y : Value} (hz : w.heap[B]? = some (.cells #[x, y] T)) : w.frozen? ⟨B, 0, none⟩ = false ∧ w.frozen? ⟨B, 1, none⟩ = false := by
  unfold World.frozen?
  rw [hz]
  exact ⟨by simp, by simp⟩
theorem laid_cells {w : World} {B : Nat} {x y u u' : Value} (h0 : w.cell? ⟨B, 0, none⟩ = some x) (h1 : w.cell? ⟨B, 1, none⟩ = some y) : ((w.setCell ⟨B, 0, none⟩ u).setCell ⟨B, 1, none⟩ u').cell? ⟨B, 0, none⟩ = some u ∧ ((w.setCell ⟨B, 0, none⟩ u).setCell ⟨B, 1, none⟩ u').cell? ⟨B, 1, none⟩ = some u' := by
  have e1 : (w.setCell ⟨B, 0, none⟩ u).cell? ⟨B, 0, none⟩ = some u := World.cell?_setCell_same _ _ _ h0
  have e2 : (w.setCell ⟨B, 0, none⟩ u).cell? ⟨B, 1, none⟩ = some y := by rw [World.cell?_setCell_other _ _ _ _ (by intro e; cases e)]; exact h1
  refine ⟨?_, World.cell?_setCell_same _ _ _ e2⟩
  rw [World.cell?_setCell_other _ _ _ _ (by intro e; cases e)]; exact e1
theorem laidR_set {w0 ws : World} {q : QueryD} {B : Nat} {a : Option Addr} {n c : Nat} {a' : Option Addr} {n' c' : Nat} {T : TypeId} (hr : RdQuery ws (.agg #[.slice a n c, .slice a' n' c']) q) (hz : ws.heap[B]? = some (.cells #[.slice none 0 0, .slice none 0 0] T)) (hB : w0.heap.size ≤ B) (hb : Below w0.heap.size w0 ws) :
    LaidR w0 q ((ws.setCell ⟨B, 0, none⟩ (.slice a n c)).setCell ⟨B, 1, none⟩ (.slice a' n' c')) B a n c a' n' c' := by
  have hk : OnlyAt [B] ws ((ws.setCell ⟨B, 0, none⟩ (.slice a n c)).setCell ⟨B, 1, none⟩ (.slice a' n' c')) := (OnlyAt.setCell ws _ _ _).same (OnlyAt.setCell _ _ _ _)
  obtain ⟨z0, z1⟩ := zb_cell hz
  obtain ⟨e0, e1⟩ := laid_cells (u := .slice a n c) (u' := .slice a' n' c') z0 z1
  exact ⟨e0, e1, hr.offS hk (SlB.newAt (w := ws) hz), hB, Nat.lt_of_lt_of_le (zb_lt hz) hk.size, OnlyAt.below hb hk (fun b hb' => by simp at hb'; omega)⟩
theorem laidR_new {w0 ws : World} {q : QueryD} {a : Option Addr} {n c : Nat} {a' : Option Addr} {n' c' : Nat} {T : TypeId} (hr : RdQuery ws (.agg #[.slice a n c, .slice a' n' c']) q) (hb : Below w0.heap.size w0 ws) :
    LaidR w0 q (ws.alloc (.cells #[.slice a n c, .slice a' n' c'] T)) ws.heap.size a n c a' n' c' :=
  ⟨newBox ws _ T 0 _ rfl, newBox ws _ T 1 _ rfl, hr.below (below_alloc _ _), hb.size, by simp, bnext hb (below_alloc _ _)⟩
theorem laidO_set {w0 X ws : World} {q : QueryD} {B : Nat} {a : Option Addr} {n c : Nat} {a' : Option Addr} {n' c' : Nat} {T : TypeId} {bs : List Nat} (hr : ROQuery ws (.agg #[.slice a n c, .slice a' n' c']) q bs) (hfr : Fresh X ws bs) (hBX : B < X.heap.size) (h0X : w0.heap.size ≤ X.heap.size) (hz : ws.heap[B]? = some (.cells #[.slice none 0 0, .slice none 0 0] T)) (hB : w0.heap.size ≤ B) (hb : Below w0.heap.size w0 ws) :
    LaidO w0 q ((ws.setCell ⟨B, 0, none⟩ (.slice a n c)).setCell ⟨B, 1, none⟩ (.slice a' n' c')) B a n c a' n' c' bs := by
  have hk : OnlyAt [B] ws ((ws.setCell ⟨B, 0, none⟩ (.slice a n c)).setCell ⟨B, 1, none⟩ (.slice a' n' c')) := (OnlyAt.setCell ws _ _ _).same (OnlyAt.setCell _ _ _ _)
  obtain ⟨z0, z1⟩ := zb_cell hz
  obtain ⟨e0, e1⟩ := laid_cells (u := .slice a n c) (u' := .slice a' n' c') z0 z1
  have hn : ∀ b ∈ bs, b ≠ B := fun b hb' e => by have := (hfr.2 b hb').1; omega
  exact ⟨e0, e1, hr.onlyAt hk (fun b hb' hm => hn b hb' (by simpa using hm)), ⟨hfr.1, fun b hb' => ⟨Nat.le_trans h0X (hfr.2 b hb').1, Nat.lt_of_lt_of_le (hfr.2 b hb').2 hk.size⟩⟩, fun hm => hn B hm rfl, hB, Nat.lt_of_lt_of_le (zb_lt hz) hk.size, OnlyAt.below hb hk (fun b hb' => by simp at hb'; omega)⟩
theorem laidO_new {w0 X ws : World} {q : QueryD} {a : Option Addr} {n c : Nat} {a' : Option Addr} {n' c' : Nat} {T : TypeId} {bs : List Nat} (hr : ROQuery ws (.agg #[.slice a n c, .slice a' n' c']) q bs) (hfr : Fresh X ws bs) (h0X : w0.heap.size ≤ X.heap.size) (hb : Below w0.heap.size w0 ws) :
    LaidO w0 q (ws.alloc (.cells #[.slice a n c, .slice a' n' c'] T)) ws.heap.size a n c a' n' c' bs :=
  ⟨newBox ws _ T 0 _ rfl, newBox ws _ T 1 _ rfl, hr.below (below_alloc _ _), ⟨hfr.1, fun b hb' => ⟨Nat.le_trans h0X (hfr.2 b hb').1, by have := (hfr.2 b hb').2; simp; omega⟩⟩, fun hm => by have := (hfr.2 _ hm).2; omega, hb.size, by simp, bnext hb (below_alloc _ _)⟩
end Go.Proofs.Ytpedpbbiamhgdaa

/-! S9b -/
namespace Go.Proofs.Ytpedpbbiamhgdaa
open Go Go.Sort Go.RowKit
set_option linter.unusedVariables false
set_option linter.unusedSimpArgs false

theorem cutA_ne {l : List AtomD} {k i : Nat} {e : AtomD} (h : l[k]? = some e) (hk : k ≠ i) : cutA (l.take (k + 1)) i = cutA (l.take k) i ++ [(e.1, e.2)] := by
  obtain ⟨hl, rfl⟩ := List.getElem?_eq_some_iff.1 h
  have hlen : (l.take k).length = k := by simp; omega
  rw [List.take_succ_eq_append_getElem hl]
  unfold cutA
  generalize l.take k = A at *
  generalize l[k] = e
  by_cases h1 : i < k
  · rw [List.take_append_of_le_length (by omega), List.drop_append_of_le_length (by omega), List.append_assoc]
  · have h2 : k < i := by omega
    rw [List.take_of_length_le (l := A ++ [e]) (by simp; omega), List.drop_of_length_le (l := A ++ [e]) (by simp; omega), List.take_of_length_le (l := A) (by omega), List.drop_of_length_le (l := A) (by omega)]
    simp
theorem cutA_eq {l : List AtomD} {i : Nat} (h : i < l.length) : cutA (l.take (i + 1)) i = cutA (l.take i) i := by
  unfold cutA
  rw [List.take_take, List.take_take, List.drop_of_length_le (by simp; omega), List.drop_of_length_le (by simp; omega)]
  congr 2; omega
theorem cutA_len2 (l : List AtomD) (i : Nat) : (cutA l i).length ≤ l.length := (cutA_sub l i).length_le
/-- A call that answers a query that reads as d, and b. -/
def GaveQB (w : World) (d : QueryD) (b : Bool) (e : Ending) (w' : World) : Prop := ∃ a n c a' n' c', e = .returned (.tuple #[.agg #[.slice a n c, .slice a' n' c'], .bool b]) ∧ RdQuery w' (.agg #[.slice a n c, .slice a' n' c']) d ∧ Below w.heap.size w w'

end Go.Proofs.Ytpedpbbiamhgdaa

/-! S9c -/
namespace Go.Proofs.Ytpedpbbiamhgdaa
open Go Go.Sort Go.RowKit
set_option linter.unusedVariables false

theorem woQ_sz (s : List Int) (q : QueryD) (i : Int) : sizeQuery (woQ s q i) ≤ sizeQuery q := by
  have h1 := woQ_size s q i
  have h2 : (woQ s q i).1 = q.1 := by unfold woQ; split <;> rfl
  unfold sizeQuery; rw [h2]; omega
theorem woQ_len (s : List Int) (q : QueryD) (i : Int) : (woQ s q i).2.length ≤ q.2.length := by
  unfold woQ; split
  · exact (cutA_sub _ _).length_le
  · exact Nat.le_refl _
theorem red_len {s : List Int} {q : QueryD} {i : Nat} (h : redB s q (i : Int) = true) : (woQ s q (i : Int)).2.length + 1 = q.2.length := by
  obtain ⟨h1, h2, h3, _⟩ := redB_in h
  rw [h3]
  exact cutA_len h2
theorem red_min {s : List Int} {q : QueryD} {i : Nat} (h : redB s q (i : Int) = true) (hf : ∀ j < i, redB s q (j : Int) = false) : minQ s (woQ s q (i : Int)) = minQ s q := by
  obtain ⟨h1, h2, h3, _⟩ := redB_in h
  rw [h3, Int.toNat_natCast]
  rw [Int.toNat_natCast] at h2
  exact (minQ_step (frN_some h2 hf h)).symm
theorem minB_some {s : List Int} {q : QueryD} {i : Nat} (hi : i < q.2.length) (h : redB s q (i : Int) = true) : minB s q = false := by
  unfold minB
  cases hf : frN s q with
  | some k => simp
  | none =>
    unfold frN at hf
    rw [List.find?_eq_none] at hf
    have := hf i (List.mem_range.2 hi)
    simp [h] at this
theorem minB_none {s : List Int} {q : QueryD} (h : ∀ j < q.2.length, redB s q (j : Int) = false) : minB s q = fineB s q 4 := by
  unfold minB; rw [frN_none h]; simp
theorem SlB.set {w : World} {B o : Nat} {u : Value} {a : Option Addr} {n c : Nat} (h : SlB w B) (hc : w.cell? ⟨B, o, none⟩ = some u) : SlB (w.setCell ⟨B, o, none⟩ (.slice a n c)) B := by
  intro o' x hx
  by_cases he : o' = o
  · subst he
    rw [World.cell?_setCell_same _ _ _ hc] at hx
    cases hx; exact ⟨_, _, _, rfl⟩
  · rw [World.cell?_setCell_other _ _ _ _ (by intro e; cases e; exact he rfl)] at hx
    exact h _ _ hx

/-- The query under way in the box B: what is minimal of it is what is minimal of d. -/
def MinS (W : World) (s : List Int) (d q : QueryD) (B : Nat) (wr : World) (x y : Value) : Prop :=
  wr.cell? ⟨B, 0, none⟩ = some x ∧ wr.cell? ⟨B, 1, none⟩ = some y ∧ wr.frozen? ⟨B, 0, none⟩ = false ∧ wr.frozen? ⟨B, 1, none⟩ = false ∧ RdQuery wr (.agg #[x, y]) q ∧ SlB wr B ∧ Below W.heap.size W wr ∧ B < wr.heap.size ∧ minQ s q = minQ s d ∧ sizeQuery q ≤ sizeQuery d ∧ q.2.length ≤ d.2.length
def lenAt9 (w : World) (B : Nat) : Nat := match w.cell? ⟨B, 1, none⟩ with | some (.slice _ n _) => n | _ => 0
theorem lenAt9_of {w : World} {B : Nat} {a : Option Addr} {n c : Nat} (h : w.cell? ⟨B, 1, none⟩ = some (.slice a n c)) : lenAt9 w B = n := by unfold lenAt9; rw [h]
theorem MinS.below {W : World} {s : List Int} {d q : QueryD} {B : Nat} {wr w' : World} {x y : Value} (h : MinS W s d q B wr x y) (hb : Below wr.heap.size wr w') : MinS W s d q B w' x y := by
  obtain ⟨h1, h2, h3, h4, h5, h6, h7, h8, h9⟩ := h
  exact ⟨cellk hb h1, cellk hb h2, frok hb h1 h3, frok hb h2 h4, h5.below hb, h6.below h8 hb, bnext h7 hb, Nat.lt_of_lt_of_le h8 hb.size, h9⟩
/-- Another query laid into the box. -/
theorem MinS.lay {W : World} {s : List Int} {d q q' : QueryD} {B : Nat} {wr : World} {x y : Value} {a a' : Option Addr} {n c n' c' : Nat} (h : MinS W s d q B wr x y) (hB : W.heap.size ≤ B) (hr : RdQuery wr (.agg #[.slice a n c, .slice a' n' c']) q') (hm : minQ s q' = minQ s d) (hz : sizeQuery q' ≤ sizeQuery d) (hl : q'.2.length ≤ d.2.length) :
    MinS W s d q' B ((wr.setCell ⟨B, 0, none⟩ (.slice a n c)).setCell ⟨B, 1, none⟩ (.slice a' n' c')) (.slice a n c) (.slice a' n' c') := by
  obtain ⟨h1, h2, h3, h4, h5, h6, h7, h8, h9⟩ := h
  have hk : OnlyAt [B] wr ((wr.setCell ⟨B, 0, none⟩ (.slice a n c)).setCell ⟨B, 1, none⟩ (.slice a' n' c')) := (OnlyAt.setCell wr _ _ _).same (OnlyAt.setCell _ _ _ _)
  have e1 : (wr.setCell ⟨B, 0, none⟩ (.slice a n c)).cell? ⟨B, 0, none⟩ = some (.slice a n c) := World.cell?_setCell_same _ _ _ h1
  have e2 : (wr.setCell ⟨B, 0, none⟩ (.slice a n c)).cell? ⟨B, 1, none⟩ = some y := by rw [World.cell?_setCell_other _ _ _ _ (by intro e; cases e)]; exact h2
  refine ⟨?_, World.cell?_setCell_same _ _ _ e2, by simpa using h3, by simpa using h4, hr.offS hk h6, (h6.set h1).set e2, OnlyAt.below h7 hk (fun b hb => by simp at hb; omega), Nat.lt_of_lt_of_le h8 hk.size, hm, hz, hl⟩
  rw [World.cell?_setCell_other _ _ _ _ (by intro e; cases e)]; exact e1

end Go.Proofs.Ytpedpbbiamhgdaa

/-! S9d -/
namespace Go.Proofs.Ytpedpbbiamhgdaa
open Go Go.Sort Go.RowKit
set_option linter.unusedVariables false
set_option linter.unusedSimpArgs false

theorem mem_take9 {l : List AtomD} {k : Nat} {x e : AtomD} (h : l[k]? = some x) : decide (e ∈ l.take (k + 1)) = (decide (e ∈ l.take k) || decide (x = e)) := by
  obtain ⟨hk, rfl⟩ := List.getElem?_eq_some_iff.1 h
  rw [List.take_succ_eq_append_getElem hk]
  generalize l.take k = A
  generalize l[k] = y
  by_cases h1 : e ∈ A
  · simp [h1]
  · by_cases h2 : y = e
    · simp [h1, h2]
    · have h3 : ¬ e = y := fun h => h2 h.symm
      simp [h1, h2, h3]
theorem QInv.below9 {E : TypeId} {W w w' : World} {vh xv : Value} {l : List AtomD} {bss : List (List Nat)} (h : QInv E W w vh l xv bss) (hb : Below w.heap.size w w') : QInv E W w' vh l xv bss := by
  obtain ⟨⟨cs, h1, h2⟩, h3, h4, h5, h6, h7, h8⟩ := h
  exact ⟨⟨cs, h1.grow hb, h2.grow hb⟩, cellk hb h3, cellk hb h4, frok hb h3 h5, h6, fun b hb' => ⟨(h7 b hb').1, Nat.lt_of_lt_of_le (h7 b hb').2 hb.size⟩, Nat.lt_of_lt_of_le h8 hb.size⟩
theorem eq9 (x e : AtomD) : decide (x.1 = e.1 ∧ x.2 = e.2) = decide (x = e) := by
  obtain ⟨a, b⟩ := x
  obtain ⟨c, d⟩ := e
  simp
end Go.Proofs.Ytpedpbbiamhgdaa
