/- Merged of M9, S9a, LaidS, S9b, S9c, S9d. -/
import Derived.Test.YtfojllkkbdpfkaaS7M
import Derived.Test.YtfojllkkbdpfkaaSfineV
import Derived.Test.YtfojllkkbdpfkaaSq4all
import Derived.Test.YtfojllkkbdpfkaaC8con
import Derived.Test.YtfojllkkbdpfkaaSrename3
import Derived.Test.YtfojllkkbdpfkaaBase
import Derived.Deep.RegionLaw
import Derived.Deep.RegionHeld3
import Derived.Lib.QuietBelow
import Derived.BigQuiet
/-! M9 -/
namespace Go.Proofs.Ytfojllkkbdpfkaa
open Go Go.RowKit
set_option linter.unusedVariables false

theorem termTo_nil9 (t : Int) : termTo [] t = t := by
  unfold termTo
  have h : inB t 0 ((([] : List Int).length : Int) - 1) = false := by
    simp [inB]; omega
  rw [h]; rfl
theorem map_nil9 (l : List Int) : l.map (termTo []) = l := by
  induction l with
  | nil => rfl
  | cons a l ih => rw [List.map_cons, ih, termTo_nil9]
theorem renA_nil9 (l : List AtomD) : l.map (renA []) = l := by
  induction l with
  | nil => rfl
  | cons a l ih => rw [List.map_cons, ih]; unfold renA; rw [map_nil9]
theorem renQ_nil9 (d : QueryD) : renQ d [] = d := by
  unfold renQ; rw [map_nil9, renA_nil9]

def cutA (l : List AtomD) (i : Nat) : List AtomD := l.take i ++ l.drop (i + 1)
def cut9 (q : QueryD) (i : Nat) : QueryD := (q.1, cutA q.2 i)
theorem cutA_sub (l : List AtomD) (i : Nat) : List.Sublist (cutA l i) l := by
  unfold cutA
  have h : List.Sublist (l.drop (i + 1)) (l.drop i) := by
    rw [← List.drop_drop]; exact List.drop_sublist _ _
  have := (List.Sublist.refl (l.take i)).append h
  rwa [List.take_append_drop] at this
theorem sumArgs_sub9 {l m : List AtomD} (h : List.Sublist m l) : sumArgs m ≤ sumArgs l := by
  induction h with
  | slnil => exact Nat.le_refl _
  | cons a _ ih => unfold sumArgs at *; simp; omega
  | cons_cons a _ ih => unfold sumArgs at *; simp; omega
theorem size_sub9 {l m : List AtomD} (h : List.Sublist m l) : sizeAtomS m ≤ sizeAtomS l := by
  have h1 := sumArgs_sub9 h
  have h2 := h.length_le
  unfold sizeAtomS; omega
theorem cutA_len {l : List AtomD} {i : Nat} (h : i < l.length) : (cutA l i).length + 1 = l.length := by
  unfold cutA; simp; omega
theorem cut9_size (q : QueryD) (i : Nat) : sizeAtomS (cut9 q i).2 ≤ sizeAtomS q.2 := size_sub9 (cutA_sub _ _)

def woB (s : List Int) (q : QueryD) (i : Int) : Bool := fineB s q 4 && (inB i 0 ((q.2.length : Int) - 1) && fineB s (cut9 q i.toNat) 4)
def woQ (s : List Int) (q : QueryD) (i : Int) : QueryD := if woB s q i then cut9 q i.toNat else q
theorem woQ_size (s : List Int) (q : QueryD) (i : Int) : sizeAtomS (woQ s q i).2 ≤ sizeAtomS q.2 := by
  unfold woQ; split
  · exact cut9_size _ _
  · exact Nat.le_refl _
theorem woQ_m (s : List Int) (q : QueryD) (i : Int) (h : sizeQuery q ≤ 1048576) : mQuery (woQ s q i) ≤ 1048576 := by
  have h1 := woQ_size s q i
  unfold mQuery sizeQuery at *
  rw [mAtomS_size]
  have h2 : (woQ s q i).1 = q.1 := by unfold woQ; split <;> rfl
  rw [h2]; omega
def redB (s : List Int) (q : QueryD) (i : Int) : Bool := woB s q i && (conB8 s (woQ s q i) q && conB8 s q (woQ s q i))
theorem redB_in {s : List Int} {q : QueryD} {i : Int} (h : redB s q i = true) : 0 ≤ i ∧ i.toNat < q.2.length ∧ woQ s q i = cut9 q i.toNat ∧ woB s q i = true ∧ fineB s q 4 = true := by
  unfold redB at h
  rw [Bool.and_eq_true] at h
  have h2 := h.1
  have h3 : woQ s q i = cut9 q i.toNat := by unfold woQ; rw [if_pos h2]
  unfold woB at h2
  rw [Bool.and_eq_true, Bool.and_eq_true] at h2
  have h4 := h2.2.1
  simp [inB] at h4
  exact ⟨by omega, by omega, h3, h.1, h2.1⟩
theorem redB_fine {s : List Int} {q : QueryD} (h : fineB s q 4 = false) (i : Int) : redB s q i = false := by
  cases hr : redB s q i with
  | false => rfl
  | true => have := (redB_in hr).2.2.2.2; rw [h] at this; cases this

def frN (s : List Int) (q : QueryD) : Option Nat := (List.range q.2.length).find? (fun i => redB s q (i : Int))
theorem frN_none {s : List Int} {q : QueryD} (h : ∀ j < q.2.length, redB s q (j : Int) = false) : frN s q = none := by
  unfold frN
  rw [List.find?_eq_none]
  intro x hx
  rw [h x (List.mem_range.1 hx)]; simp
theorem find_first9 (p : Nat → Bool) (n i : Nat) (hi : i < n) (h : ∀ j < i, p j = false) (hp : p i = true) : (List.range n).find? p = some i := by
  rw [List.find?_range_eq_some]
  exact ⟨hp, List.mem_range.2 hi, fun j hj => by rw [h j hj]; rfl⟩
theorem frN_some {s : List Int} {q : QueryD} {i : Nat} (hi : i < q.2.length) (h : ∀ j < i, redB s q (j : Int) = false) (hr : redB s q (i : Int) = true) : frN s q = some i := find_first9 _ _ _ hi h hr
theorem frN_in {s : List Int} {q : QueryD} {i : Nat} (h : frN s q = some i) : redB s q (i : Int) = true := by
  unfold frN at h
  have := List.find?_some (p := fun i : Nat => redB s q (i : Int)) h
  exact this
def minN : Nat → List Int → QueryD → QueryD
  | 0, _, q => q
  | k + 1, s, q => match frN s q with
    | none => q
    | some i => minN k s (cut9 q i)
def minQ (s : List Int) (q : QueryD) : QueryD := minN q.2.length s q
theorem minQ_end {s : List Int} {q : QueryD} (h : frN s q = none) : minQ s q = q := by
  unfold minQ
  cases hn : q.2.length with
  | zero => rfl
  | succ k => unfold minN; rw [h]
theorem minQ_step {s : List Int} {q : QueryD} {i : Nat} (h : frN s q = some i) : minQ s q = minQ s (cut9 q i) := by
  have hi := (redB_in (frN_in h)).2.1
  rw [Int.toNat_natCast] at hi
  have hl : (cut9 q i).2.length + 1 = q.2.length := cutA_len hi
  have he : minQ s (cut9 q i) = minN (cut9 q i).2.length s (cut9 q i) := rfl
  rw [he]
  unfold minQ
  rw [← hl]
  show (match frN s q with | none => q | some i => minN _ s (cut9 q i)) = _
  rw [h]
theorem minN_sub : ∀ (k : Nat) (s : List Int) (q : QueryD), List.Sublist (minN k s q).2 q.2 ∧ (minN k s q).1 = q.1
  | 0, _, q => ⟨List.Sublist.refl _, rfl⟩
  | k + 1, s, q => by
    unfold minN
    split
    · exact ⟨List.Sublist.refl _, rfl⟩
    · have := minN_sub k s (cut9 q ‹_›)
      exact ⟨this.1.trans (cutA_sub _ _), this.2⟩
theorem minQ_m (s : List Int) (q : QueryD) (h : sizeQuery q ≤ 1048576) : mQuery (minQ s q) ≤ 1048576 := by
  have h1 := minN_sub q.2.length s q
  have h2 := size_sub9 h1.1
  unfold mQuery sizeQuery minQ at *
  rw [mAtomS_size, h1.2]; omega
theorem minQ_not {s : List Int} {q : QueryD} (h : fineB s q 4 = false) : minQ s q = q := minQ_end (frN_none (fun j _ => redB_fine h _))
def minB (s : List Int) (q : QueryD) : Bool := fineB s q 4 && (frN s q).isNone
theorem fine_len9 {s : List Int} {q : QueryD} (h : fineB s q 4 = true) : q.2.length ≤ 4 := by
  unfold fineB at h
  simp only [Bool.and_eq_true, inB] at h
  have := h.2.2.1
  simp at this
  omega

/-- The atoms without those that are equal to an earlier one. -/
def ddA (l : List AtomD) : List AtomD := l.foldl (fun acc a => if a ∈ acc then acc else acc ++ [a]) []
theorem ddA_snoc (l : List AtomD) (a : AtomD) : ddA (l ++ [a]) = if a ∈ ddA l then ddA l else ddA l ++ [a] := by
  unfold ddA; rw [List.foldl_append]; rfl
theorem ddA_take {l : List AtomD} {i : Nat} {a : AtomD} (h : l[i]? = some a) : ddA (l.take (i + 1)) = if a ∈ ddA (l.take i) then ddA (l.take i) else ddA (l.take i) ++ [a] := by
  obtain ⟨hi, rfl⟩ := List.getElem?_eq_some_iff.1 h
  rw [List.take_succ_eq_append_getElem hi, ddA_snoc]
theorem ddA_mem (l : List AtomD) : ∀ a, a ∈ ddA l ↔ a ∈ l := by
  have H : ∀ (l acc : List AtomD) (a : AtomD), a ∈ l.foldl (fun acc a => if a ∈ acc then acc else acc ++ [a]) acc ↔ a ∈ acc ∨ a ∈ l := by
    intro l
    induction l with
    | nil => intro acc a; simp
    | cons x l ih =>
      intro acc a
      rw [List.foldl_cons, ih]
      split
      · rename_i hx
        constructor
        · rintro (h | h)
          · exact .inl h
          · exact .inr (List.mem_cons_of_mem _ h)
        · rintro (h | h)
          · exact .inl h
          · rcases List.mem_cons.1 h with rfl | h
            · exact .inl hx
            · exact .inr h
      · rw [List.mem_append, List.mem_singleton, List.mem_cons]
        constructor
        · rintro ((h | h) | h)
          · exact .inl h
          · exact .inr (.inl h)
          · exact .inr (.inr h)
        · rintro (h | h | h)
          · exact .inl (.inl h)
          · exact .inl (.inr h)
          · exact .inr h
  intro a; unfold ddA; rw [H]; simp
theorem ddA_size (l : List AtomD) : sizeAtomS (ddA l) ≤ sizeAtomS l := by
  have H : ∀ (l acc : List AtomD), sizeAtomS (l.foldl (fun acc a => if a ∈ acc then acc else acc ++ [a]) acc) ≤ sizeAtomS acc + sizeAtomS l := by
    intro l
    induction l with
    | nil => intro acc; simp [sizeAtomS, sumArgs]
    | cons x l ih =>
      intro acc
      rw [List.foldl_cons]
      refine Nat.le_trans (ih _) ?_
      split
      · simp [sizeAtomS, sumArgs]; omega
      · simp [sizeAtomS, sumArgs]; omega
  have := H l []
  unfold ddA; simpa [sizeAtomS, sumArgs] using this
theorem ddA_len (l : List AtomD) : (ddA l).length ≤ l.length := by
  have H : ∀ (l acc : List AtomD), (l.foldl (fun acc a => if a ∈ acc then acc else acc ++ [a]) acc).length ≤ acc.length + l.length := by
    intro l
    induction l with
    | nil => intro acc; simp
    | cons x l ih =>
      intro acc
      rw [List.foldl_cons]
      refine Nat.le_trans (ih _) ?_
      split
      · simp <;> omega
      · simp <;> omega
  have := H l []
  unfold ddA; simpa using this
def ddQ (q : QueryD) : QueryD := (q.1, ddA q.2)
theorem ddQ_m (q : QueryD) (h : sizeQuery q ≤ 1048576) : mQuery (ddQ q) ≤ 1048576 := by
  have h1 := ddA_size q.2
  unfold mQuery sizeQuery ddQ at *
  rw [mAtomS_size]; simp only; omega
end Go.Proofs.Ytfojllkkbdpfkaa

/-! S9a -/
namespace Go.Proofs.Ytfojllkkbdpfkaa
open Go Go.Sort Go.RowKit
set_option linter.unusedVariables false

/-- A block of which every cell is a slice: no number and no atom lies in it. -/
def SlB (w : World) (B : Nat) : Prop := ∀ o x, w.cell? ⟨B, o, none⟩ = some x → ∃ a n c, x = .slice a n c
theorem SlB.below {w w' : World} {B : Nat} (h : SlB w B) (hlt : B < w.heap.size) (hb : Below w.heap.size w w') : SlB w' B := fun o x hx => h o x (by rw [← hb.cell (p := ⟨B, o, none⟩) hlt]; exact hx)
theorem SlB.new (w : World) (a a' : Option Addr) (n c n' c' : Nat) (T : TypeId) : SlB (w.alloc (.cells #[.slice a n c, .slice a' n' c'] T)) w.heap.size := by
  intro o x hx
  unfold World.cell? at hx
  rw [heap_alloc_new w] at hx
  match o, hx with
  | 0, hx => simp at hx; exact ⟨_, _, _, hx.symm⟩
  | 1, hx => simp at hx; exact ⟨_, _, _, hx.symm⟩
  | k + 2, hx => simp at hx
theorem Ints.offS {w w' : World} {v : Value} {l : List Int} {B : Nat} (h : Ints w v l) (ko : OnlyAt [B] w w') (hB : SlB w B) : Ints w' v l := by
  refine h.onlyAt ko fun b off n c hv hn hb => ?_
  obtain ⟨a, n', cap, e, hl, hn', hm, hc⟩ := h.cases
  rw [hv] at e; cases e
  obtain ⟨b2, off2, e2, hlt, hc⟩ := hc hn
  cases e2
  have hbB : b = B := by simpa using hb
  subst hbB
  obtain ⟨_, _, _, e3⟩ := hB _ _ (hc 0 hn)
  cases e3
theorem RdQuery.offS {w w' : World} {v : Value} {d : QueryD} {B : Nat} (h : RdQuery w v d) (ko : OnlyAt [B] w w') (hB : SlB w B) : RdQuery w' v d := by
  obtain ⟨a, n, c, a', n', c', rfl, hi, ha⟩ := h
  refine ⟨a, n, c, a', n', c', rfl, hi.offS ko hB, ?_⟩
  obtain ⟨a2, n2, cap, e, hl, hn', hm, hc⟩ := ha
  cases e
  refine ⟨_, _, _, rfl, hl, hn', hm, fun h0 => ?_⟩
  obtain ⟨b, off, rfl, hlt, hc⟩ := hc h0
  refine ⟨b, off, rfl, Nat.lt_of_lt_of_le hlt ko.size, fun j hj => ?_⟩
  have hne : b ∉ [B] := by
    intro hb
    have hbB : b = B := by simpa using hb
    subst hbB
    obtain ⟨cs, hcs, hcl, _, _, _, rfl, _⟩ := hc 0 (by omega)
    obtain ⟨_, _, _, e3⟩ := hB _ _ ((hcl 0 (by omega)).trans (by rfl))
    cases e3
  obtain ⟨cs, h1, h2, ea, en, ec, rfl, hi3, hint⟩ := hc j hj
  exact ⟨_, h1, fun i hi => by rw [← h2 i hi]; exact World.cell?_of_block (ko.block b hlt hne), ea, en, ec, rfl, hi3, hint.offS ko hB⟩
theorem Ints.lit0 (w : World) (a : Option Addr) : Ints w (.slice a 0 0) [] := ⟨fun x h => by simp at h, .inl ⟨a, 0, rfl, Nat.zero_le _, rfl⟩⟩
theorem SlB.newAt {w W : World} {B : Nat} {a a' : Option Addr} {n c n' c' : Nat} {T : TypeId} (h : W.heap[B]? = some (.cells #[.slice a n c, .slice a' n' c'] T)) : SlB W B := by
  intro o x hx
  unfold World.cell? at hx
  rw [h] at hx
  match o, hx with
  | 0, hx => simp at hx; exact ⟨_, _, _, hx.symm⟩
  | 1, hx => simp at hx; exact ⟨_, _, _, hx.symm⟩
  | k + 2, hx => simp at hx

theorem newFrz (w : World) (cs : Array Value) (T : TypeId) (i : Nat) : (w.alloc (.cells cs T)).frozen? ⟨w.heap.size, i, none⟩ = false := by simp
theorem frz2 (w : World) (o1 : Obj) (cs : Array Value) (T : TypeId) (o3 : Obj) (i : Nat) (v : Value) (h : cs[i]? = some v) : (((w.alloc o1).alloc (.cells cs T)).alloc o3).frozen? ⟨w.heap.size + 1, i, none⟩ = false := by
  have e : (w.alloc o1).heap.size = w.heap.size + 1 := by simp
  have h1 := newBox (w.alloc o1) cs T i v h
  have h2 := newFrz (w.alloc o1) cs T i
  rw [e] at h1 h2
  exact frok (below_alloc _ _) h1 h2
theorem frz3 (w : World) (o1 o2 : Obj) (cs : Array Value) (T : TypeId) (i : Nat) : (((w.alloc o1).alloc o2).alloc (.cells cs T)).frozen? ⟨w.heap.size + 1 + 1, i, none⟩ = false := by
  have e : ((w.alloc o1).alloc o2).heap.size = w.heap.size + 1 + 1 := by simp
  have h2 := newFrz ((w.alloc o1).alloc o2) cs T i
  rw [e] at h2
  exact h2
/-- A call that answers a query that reads as d. -/
def GaveQ (w : World) (d : QueryD) (e : Ending) (w' : World) : Prop := ∃ a n c a' n' c', e = .returned (.agg #[.slice a n c, .slice a' n' c']) ∧ RdQuery w' (.agg #[.slice a n c, .slice a' n' c']) d ∧ Below w.heap.size w w'

set_option maxHeartbeats 4000000 in
theorem sCopy_any (w : World) (v : Value) (d : QueryD) (h : RdQuery w v d) (hs1 : d.1.length ≤ 1048576) (hs2 : sizeAtomS d.2 ≤ 1048576) :
    Calls Try.prog 70 #[v] w (GaveQ w d) := by
  have HR := Lib.hid (fun W (hb : Below w.heap.size w W) vt (ht : Ints W vt []) => sRenameQuery_any W v vt d [] (RdQuery.below h hb) ht hs1 hs2)
  rw [renQ_nil9] at HR
  obtain ⟨a0, n0, c0, a, n, c, rfl, hi, ha⟩ := h
  have hb0 : ∀ a b c, Below w.heap.size w (((w.alloc a).alloc b).alloc c) := fun a b c => (((Below.refl _ _).alloc (Nat.le_refl _) _).alloc (by simp) _).alloc (by simp; omega) _
  have HB0 := Lib.hid hb0
  clear hi ha hb0 hs1 hs2
  go_enter Try.func70, Try.ntmps70
  go_wp2_with fail
  obtain ⟨W, hW⟩ : ∃ W, W = ((w.alloc (.cells #[.slice a0 n0 c0, .slice a n c] 37)).alloc (.cells #[.slice none 0 0, .slice none 0 0] 37)).alloc (.cells #[] 3) := ⟨_, rfl⟩
  have HBW : Hid (Below w.heap.size w W) := by rw [hW]; exact HB0.out _ _ _
  have k0 : W.cell? ⟨w.heap.size + 1, 0, none⟩ = some (.slice none 0 0) := by rw [hW]; exact box2 w _ _ _ _ 0 _ rfl
  have k1 : W.cell? ⟨w.heap.size + 1, 1, none⟩ = some (.slice none 0 0) := by rw [hW]; exact box2 w _ _ _ _ 1 _ rfl
  have f0 : W.frozen? ⟨w.heap.size + 1, 0, none⟩ = false := by rw [hW]; exact frz2 w _ _ _ _ 0 _ rfl
  have f1 : W.frozen? ⟨w.heap.size + 1, 1, none⟩ = false := by rw [hW]; exact frz2 w _ _ _ _ 1 _ rfl
  have hsl : SlB W (w.heap.size + 1) := by
    rw [hW]
    refine SlB.below (w := (w.alloc (.cells #[.slice a0 n0 c0, .slice a n c] 37)).alloc (.cells #[.slice none 0 0, .slice none 0 0] 37)) ?_ (by simp) (below_alloc _ _)
    have := SlB.new (w.alloc (.cells #[.slice a0 n0 c0, .slice a n c] 37)) none none 0 0 0 0 37
    simpa using this
  have hsz : w.heap.size + 1 < W.heap.size := by rw [hW]; simp
  rw [← hW]
  clear hW
  refine (HR.out _ HBW.out _ (Ints.lit0 _ _)).mono ?_
  rintro e w1 ⟨r, rfl, hr, hb⟩
  replace f0 := frok hb k0 f0
  replace f1 := frok hb k1 f1
  replace k0 := cellk hb k0
  replace k1 := cellk hb k1
  have HSL := Lib.hid (hsl.below hsz hb)
  have HB1 := Lib.hid (bnext HBW.out hb)
  have HR1 := Lib.hid hr
  obtain ⟨ra, rn, rc, ra', rn', rc', rfl, _, _⟩ := hr
  clear hb hsl hsz HR
  go_wp2_with fail
  have hk : OnlyAt [w.heap.size + 1] w1 ((w1.setCell ⟨w.heap.size + 1, 0, none⟩ (.slice ra rn rc)).setCell ⟨w.heap.size + 1, 1, none⟩ (.slice ra' rn' rc')) := (OnlyAt.setCell w1 _ _ _).same (OnlyAt.setCell _ _ _ _)
  exact bodyPost_ret (v := .agg #[.slice ra rn rc, .slice ra' rn' rc']) (by simp [results, Try.results70, go_sem, k0, k1]) rfl ⟨_, _, _, _, _, _, rfl, HR1.out.offS hk HSL.out, OnlyAt.below HB1.out hk (fun x hx => by simp at hx; omega)⟩
end Go.Proofs.Ytfojllkkbdpfkaa

/-! LaidS -/
namespace Go.Proofs.Ytfojllkkbdpfkaa
open Go Go.Sort Go.RowKit
set_option linter.unusedVariables false

theorem zbk {w w' : World} {B : Nat} {o : Obj} (hb : Below w.heap.size w w') (hz : w.heap[B]? = some o) : w'.heap[B]? = some o := (hb.block B (Array.getElem?_eq_some_iff.1 hz).1).trans hz
theorem zb_lt {w : World} {B : Nat} {o : Obj} (hz : w.heap[B]? = some o) : B < w.heap.size := (Array.getElem?_eq_some_iff.1 hz).1
def LaidR (w0 : World) (q : QueryD) (wx : World) (B : Nat) (a : Option Addr) (n c : Nat) (a' : Option Addr) (n' c' : Nat) : Prop :=
  wx.cell? ⟨B, 0, none⟩ = some (.slice a n c) ∧ wx.cell? ⟨B, 1, none⟩ = some (.slice a' n' c') ∧ RdQuery wx (.agg #[.slice a n c, .slice a' n' c']) q ∧ w0.heap.size ≤ B ∧ B < wx.heap.size ∧ Below w0.heap.size w0 wx
def LaidO (w0 : World) (q : QueryD) (wx : World) (B : Nat) (a : Option Addr) (n c : Nat) (a' : Option Addr) (n' c' : Nat) (bs : List Nat) : Prop :=
  wx.cell? ⟨B, 0, none⟩ = some (.slice a n c) ∧ wx.cell? ⟨B, 1, none⟩ = some (.slice a' n' c') ∧ ROQuery wx (.agg #[.slice a n c, .slice a' n' c']) q bs ∧ Fresh w0 wx bs ∧ B ∉ bs ∧ w0.heap.size ≤ B ∧ B < wx.heap.size ∧ Below w0.heap.size w0 wx
theorem zb_cell {w : World} {B : Nat} {T : TypeId} {x y : Value} (hz : w.heap[B]? = some (.cells #[x, y] T)) : w.cell? ⟨B, 0, none⟩ = some x ∧ w.cell? ⟨B, 1, none⟩ = some y := by
  unfold World.cell?
  rw [hz]
  exact ⟨by simp, by simp⟩
theorem zb_froz {w : World} {B : Nat} {T : TypeId} {x y : Value} (hz : w.heap[B]? = some (.cells #[x, y] T)) : w.frozen? ⟨B, 0, none⟩ = false ∧ w.frozen? ⟨B, 1, none⟩ = false := by
  unfold World.frozen?
  rw [hz]
  exact ⟨by simp, by simp⟩
theorem laid_cells {w : World} {B : Nat} {x y u u' : Value} (h0 : w.cell? ⟨B, 0, none⟩ = some x) (h1 : w.cell? ⟨B, 1, none⟩ = some y) : ((w.setCell ⟨B, 0, none⟩ u).setCell ⟨B, 1, none⟩ u').cell? ⟨B, 0, none⟩ = some u ∧ ((w.setCell ⟨B, 0, none⟩ u).setCell ⟨B, 1, none⟩ u').cell? ⟨B, 1, none⟩ = some u' := by
  have e1 : (w.setCell ⟨B, 0, none⟩ u).cell? ⟨B, 0, none⟩ = some u := World.cell?_setCell_same _ _ _ h0
  have e2 : (w.setCell ⟨B, 0, none⟩ u).cell? ⟨B, 1, none⟩ = some y := by rw [World.cell?_setCell_other _ _ _ _ (by intro e; cases e)]; exact h1
  refine ⟨?_, World.cell?_setCell_same _ _ _ e2⟩
  rw [World.cell?_setCell_other _ _ _ _ (by intro e; cases e)]; exact e1
theorem laidR_set {w0 ws : World} {q : QueryD} {B : Nat} {a : Option Addr} {n c : Nat} {a' : Option Addr} {n' c' : Nat} {T : TypeId} (hr : RdQuery ws (.agg #[.slice a n c, .slice a' n' c']) q) (hz : ws.heap[B]? = some (.cells #[.slice none 0 0, .slice none 0 0] T)) (hB : w0.heap.size ≤ B) (hb : Below w0.heap.size w0 ws) :
    LaidR w0 q ((ws.setCell ⟨B, 0, none⟩ (.slice a n c)).setCell ⟨B, 1, none⟩ (.slice a' n' c')) B a n c a' n' c' := by
  have hk : OnlyAt [B] ws ((ws.setCell ⟨B, 0, none⟩ (.slice a n c)).setCell ⟨B, 1, none⟩ (.slice a' n' c')) := (OnlyAt.setCell ws _ _ _).same (OnlyAt.setCell _ _ _ _)
  obtain ⟨z0, z1⟩ := zb_cell hz
  obtain ⟨e0, e1⟩ := laid_cells (u := .slice a n c) (u' := .slice a' n' c') z0 z1
  exact ⟨e0, e1, hr.offS hk (SlB.newAt (w := ws) hz), hB, Nat.lt_of_lt_of_le (zb_lt hz) hk.size, OnlyAt.below hb hk (fun b hb' => by simp at hb'; omega)⟩
theorem laidR_new {w0 ws : World} {q : QueryD} {a : Option Addr} {n c : Nat} {a' : Option Addr} {n' c' : Nat} {T : TypeId} (hr : RdQuery ws (.agg #[.slice a n c, .slice a' n' c']) q) (hb : Below w0.heap.size w0 ws) :
    LaidR w0 q (ws.alloc (.cells #[.slice a n c, .slice a' n' c'] T)) ws.heap.size a n c a' n' c' :=
  ⟨newBox ws _ T 0 _ rfl, newBox ws _ T 1 _ rfl, hr.below (below_alloc _ _), hb.size, by simp, bnext hb (below_alloc _ _)⟩
theorem laidO_set {w0 X ws : World} {q : QueryD} {B : Nat} {a : Option Addr} {n c : Nat} {a' : Option Addr} {n' c' : Nat} {T : TypeId} {bs : List Nat} (hr : ROQuery ws (.agg #[.slice a n c, .slice a' n' c']) q bs) (hfr : Fresh X ws bs) (hBX : B < X.heap.size) (h0X : w0.heap.size ≤ X.heap.size) (hz : ws.heap[B]? = some (.cells #[.slice none 0 0, .slice none 0 0] T)) (hB : w0.heap.size ≤ B) (hb : Below w0.heap.size w0 ws) :
    LaidO w0 q ((ws.setCell ⟨B, 0, none⟩ (.slice a n c)).setCell ⟨B, 1, none⟩ (.slice a' n' c')) B a n c a' n' c' bs := by
  have hk : OnlyAt [B] ws ((ws.setCell ⟨B, 0, none⟩ (.slice a n c)).setCell ⟨B, 1, none⟩ (.slice a' n' c')) := (OnlyAt.setCell ws _ _ _).same (OnlyAt.setCell _ _ _ _)
  obtain ⟨z0, z1⟩ := zb_cell hz
  obtain ⟨e0, e1⟩ := laid_cells (u := .slice a n c) (u' := .slice a' n' c') z0 z1
  have hn : ∀ b ∈ bs, b ≠ B := fun b hb' e => by have := (hfr.2 b hb').1; omega
  exact ⟨e0, e1, hr.onlyAt hk (fun b hb' hm => hn b hb' (by simpa using hm)), ⟨hfr.1, fun b hb' => ⟨Nat.le_trans h0X (hfr.2 b hb').1, Nat.lt_of_lt_of_le (hfr.2 b hb').2 hk.size⟩⟩, fun hm => hn B hm rfl, hB, Nat.lt_of_lt_of_le (zb_lt hz) hk.size, OnlyAt.below hb hk (fun b hb' => by simp at hb'; omega)⟩
theorem laidO_new {w0 X ws : World} {q : QueryD} {a : Option Addr} {n c : Nat} {a' : Option Addr} {n' c' : Nat} {T : TypeId} {bs : List Nat} (hr : ROQuery ws (.agg #[.slice a n c, .slice a' n' c']) q bs) (hfr : Fresh X ws bs) (h0X : w0.heap.size ≤ X.heap.size) (hb : Below w0.heap.size w0 ws) :
    LaidO w0 q (ws.alloc (.cells #[.slice a n c, .slice a' n' c'] T)) ws.heap.size a n c a' n' c' bs :=
  ⟨newBox ws _ T 0 _ rfl, newBox ws _ T 1 _ rfl, hr.below (below_alloc _ _), ⟨hfr.1, fun b hb' => ⟨Nat.le_trans h0X (hfr.2 b hb').1, by have := (hfr.2 b hb').2; simp; omega⟩⟩, fun hm => by have := (hfr.2 _ hm).2; omega, hb.size, by simp, bnext hb (below_alloc _ _)⟩
end Go.Proofs.Ytfojllkkbdpfkaa

/-! S9b -/
namespace Go.Proofs.Ytfojllkkbdpfkaa
open Go Go.Sort Go.RowKit
set_option linter.unusedVariables false
set_option linter.unusedSimpArgs false

theorem cutA_ne {l : List AtomD} {k i : Nat} {e : AtomD} (h : l[k]? = some e) (hk : k ≠ i) : cutA (l.take (k + 1)) i = cutA (l.take k) i ++ [(e.1, e.2)] := by
  obtain ⟨hl, rfl⟩ := List.getElem?_eq_some_iff.1 h
  have hlen : (l.take k).length = k := by simp; omega
  rw [List.take_succ_eq_append_getElem hl]
  unfold cutA
  generalize l.take k = A at *
  generalize l[k] = e
  by_cases h1 : i < k
  · rw [List.take_append_of_le_length (by omega), List.drop_append_of_le_length (by omega), List.append_assoc]
  · have h2 : k < i := by omega
    rw [List.take_of_length_le (l := A ++ [e]) (by simp; omega), List.drop_of_length_le (l := A ++ [e]) (by simp; omega), List.take_of_length_le (l := A) (by omega), List.drop_of_length_le (l := A) (by omega)]
    simp
theorem cutA_eq {l : List AtomD} {i : Nat} (h : i < l.length) : cutA (l.take (i + 1)) i = cutA (l.take i) i := by
  unfold cutA
  rw [List.take_take, List.take_take, List.drop_of_length_le (by simp; omega), List.drop_of_length_le (by simp; omega)]
  congr 2; omega
theorem cutA_len2 (l : List AtomD) (i : Nat) : (cutA l i).length ≤ l.length := (cutA_sub l i).length_le
/-- A call that answers a query that reads as d, and b. -/
def GaveQB (w : World) (d : QueryD) (b : Bool) (e : Ending) (w' : World) : Prop := ∃ a n c a' n' c', e = .returned (.tuple #[.agg #[.slice a n c, .slice a' n' c'], .bool b]) ∧ RdQuery w' (.agg #[.slice a n c, .slice a' n' c']) d ∧ Below w.heap.size w w'

set_option maxRecDepth 100000 in
set_option maxHeartbeats 16000000 in
theorem sWithout_any (w : World) (vs v : Value) (s : List Int) (d : QueryD) (i : Int) (hvs : RdSchema w vs s) (h : RdQuery w v d) (hs1 : d.1.length ≤ 1048576) (hs2 : sizeAtomS d.2 ≤ 1048576) :
    Calls Try.prog 66 #[vs, v, .int .i64 i] w (GaveQB w (woQ s d i) (woB s d i)) := by
  have HQ := Lib.hid (fun W (hb : Below w.heap.size w W) => sIsQuery_any W vs v s d (RdSchema.below hvs hb) (RdQuery.below h hb) hs2)
  have HCP := Lib.hid (fun W (hb : Below w.heap.size w W) => sCopy_any W v d (RdQuery.below h hb) hs1 hs2)
  have HQX := Lib.hid (fun W x (hb : Below w.heap.size w W) (hx : RdQuery W x (cut9 d i.toNat)) => sIsQuery_any W vs x s (cut9 d i.toNat) (RdSchema.below hvs hb) hx (Nat.le_trans (cut9_size d i.toNat) hs2))
  obtain ⟨B, hB⟩ : ∃ B, B = woB s d i := ⟨_, rfl⟩
  obtain ⟨Q, hQ⟩ : ∃ Q, Q = woQ s d i := ⟨_, rfl⟩
  rw [← hB, ← hQ]
  obtain ⟨sa, sn, sc, rfl, hs⟩ := hvs
  obtain ⟨a0, n0, c0, a, n, c, rfl, hi, ha⟩ := h
  obtain ⟨hl, hn, hm, hcell⟩ := ha.at
  unfold maxLen at hm
  have HC := Lib.hid hcell
  have HL := Lib.hid hl
  have HI := Lib.hid hi
  have HZ1 := Lib.hid hs1
  have HSA := Lib.hid hs2
  have hln : n ≤ 1048576 := by unfold sizeAtomS at hs2; omega
  have HWB0 : Hid (woB s d i = (fineB s d 4 && (inB i 0 ((n : Int) - 1) && fineB s (cut9 d i.toNat) 4))) := by unfold Hid woB; rw [hl]
  unfold woQ at hQ
  rw [← hB] at HWB0 hQ
  have HWQ0 := Lib.hid hQ
  clear hB hQ
  obtain ⟨p1, hp1⟩ : ∃ p, fineB s d 4 = p := ⟨_, rfl⟩
  obtain ⟨p2, hp2⟩ : ∃ p, inB i 0 ((n : Int) - 1) = p := ⟨_, rfl⟩
  obtain ⟨p3, hp3⟩ : ∃ p, fineB s (cut9 d i.toNat) 4 = p := ⟨_, rfl⟩
  rw [hp1, hp2, hp3] at HWB0
  rw [hp1] at HQ
  rw [hp3] at HQX
  have HWB : Hid (∀ b, (p1 && (p2 && p3)) = b → B = b) := fun b e => HWB0.out.trans e
  have HWQ : Hid ((p1 && (p2 && p3)) = false → Q = d) := fun e => by have h1 := HWQ0.out; have h2 := HWB0.out; rw [e] at h2; rw [h2] at h1; exact h1
  have HWQ2 : Hid ((p1 && (p2 && p3)) = true → Q = cut9 d i.toNat) := fun e => by have h1 := HWQ0.out; have h2 := HWB0.out; rw [e] at h2; rw [h2] at h1; exact h1
  have HP2 := Lib.hid hp2
  have hb0 : ∀ a b c, Below w.heap.size w (((w.alloc a).alloc b).alloc c) := fun a b c => (((Below.refl _ _).alloc (Nat.le_refl _) _).alloc (by simp) _).alloc (by simp; omega) _
  have HB0 := Lib.hid hb0
  clear HWB0 HWQ0 hp1 hp2 hp3 hs hi ha hcell hl hb0 hs1 hs2
  go_enter Try.func66, Try.ntmps66
  go_wp2_with fail
  obtain ⟨W, hW⟩ : ∃ W, W = ((w.alloc (.cells #[.slice sa sn sc] 33)).alloc (.cells #[.slice a0 n0 c0, .slice a n c] 37)).alloc (.cells #[.slice none 0 0, .slice none 0 0] 37) := ⟨_, rfl⟩
  have HBW : Hid (Below w.heap.size w W) := by rw [hW]; exact HB0.out _ _ _
  have q0 : W.cell? ⟨w.heap.size, 0, none⟩ = some (.slice sa sn sc) := by rw [hW]; exact box1 w _ _ _ _ 0 _ rfl
  have q1 : W.cell? ⟨w.heap.size + 1, 0, none⟩ = some (.slice a0 n0 c0) := by rw [hW]; exact box2 w _ _ _ _ 0 _ rfl
  have q2 : W.cell? ⟨w.heap.size + 1, 1, none⟩ = some (.slice a n c) := by rw [hW]; exact box2 w _ _ _ _ 1 _ rfl
  have k0 : W.cell? ⟨w.heap.size + 1 + 1, 0, none⟩ = some (.slice none 0 0) := by rw [hW]; exact box3 w _ _ _ _ 0 _ rfl
  have k1 : W.cell? ⟨w.heap.size + 1 + 1, 1, none⟩ = some (.slice none 0 0) := by rw [hW]; exact box3 w _ _ _ _ 1 _ rfl
  have f0 : W.frozen? ⟨w.heap.size + 1 + 1, 0, none⟩ = false := by rw [hW]; exact frz3 w _ _ _ _ 0
  have f1 : W.frozen? ⟨w.heap.size + 1 + 1, 1, none⟩ = false := by rw [hW]; exact frz3 w _ _ _ _ 1
  have hsl : SlB W (w.heap.size + 1 + 1) := by
    rw [hW]
    have := SlB.new ((w.alloc (.cells #[.slice sa sn sc] 33)).alloc (.cells #[.slice a0 n0 c0, .slice a n c] 37)) none none 0 0 0 0 37
    simpa using this
  have HSZ : Hid (W.heap.size = w.heap.size + 3) := by rw [hW]; exact Lib.hid (by simp)
  rw [← hW]
  clear hW
  refine (HQ.out _ HBW.out).mono ?_
  rintro e w1 ⟨rfl, hbb⟩
  have HSL1 := Lib.hid (hsl.below (by have := HSZ.out; omega) hbb)
  replace f0 := frok hbb k0 f0
  replace f1 := frok hbb k1 f1
  replace q0 := cellk hbb q0
  replace q1 := cellk hbb q1
  replace q2 := cellk hbb q2
  replace k0 := cellk hbb k0
  replace k1 := cellk hbb k1
  have HB1 := Lib.hid (bnext HBW.out hbb)
  have HS1 : Hid (w.heap.size + 3 ≤ w1.heap.size) := by have := hbb.size; have := HSZ.out; exact Lib.hid (by omega)
  clear hbb hsl HSZ HBW
  have HSZ := HS1
  cases p1 with
  | false =>
    have HWBf : Hid (B = false) := HWB.out _ rfl
    have HWQf : Hid (Q = d) := HWQ.out rfl
    clear HWB HWQ HWQ2
    go_wp2_with fail
    refine (HCP.out _ HB1.out).mono ?_
    rintro e wc ⟨ra, rn, rc, ra', rn', rc', rfl, hr, hbc⟩
    replace f0 := frok hbc k0 f0
    replace f1 := frok hbc k1 f1
    replace k0 := cellk hbc k0
    replace k1 := cellk hbc k1
    have HSLc := Lib.hid (HSL1.out.below (by have := (Below.size HB1.out); have := HSZ.out; omega) hbc)
    have HBc := Lib.hid (bnext HB1.out hbc)
    have HRc := Lib.hid hr
    clear hbc hr
    go_wp2_with fail
    have hk : OnlyAt [w.heap.size + 1 + 1] wc ((wc.setCell ⟨w.heap.size + 1 + 1, 0, none⟩ (.slice ra rn rc)).setCell ⟨w.heap.size + 1 + 1, 1, none⟩ (.slice ra' rn' rc')) := (OnlyAt.setCell wc _ _ _).same (OnlyAt.setCell _ _ _ _)
    exact bodyPost_ret (v := .tuple #[.agg #[.slice ra rn rc, .slice ra' rn' rc'], .bool false]) (by simp [results, Try.results66, go_sem, k0, k1]) rfl ⟨_, _, _, _, _, _, by rw [HWBf.out], by rw [HWQf.out]; exact HRc.out.offS hk HSLc.out, OnlyAt.below HBc.out hk (fun x hx => by simp at hx; omega)⟩
  | true =>
    have HIN := Lib.hid (fun w => l1In_any i 0 ((n : Int) - 1) w)
    rw [HP2.out] at HIN
    cases p2 with
    | false =>
      have HWBf : Hid (B = false) := HWB.out _ rfl
      have HWQf : Hid (Q = d) := HWQ.out rfl
      clear HWB HWQ HWQ2
      go_wp2_with (go_at_call 91; refine (HIN.out _).mono ?_; rintro e w' ⟨rfl, rfl⟩)
      go_wp2_with fail
      refine (HCP.out _ HB1.out).mono ?_
      rintro e wc ⟨ra, rn, rc, ra', rn', rc', rfl, hr, hbc⟩
      replace f0 := frok hbc k0 f0
      replace f1 := frok hbc k1 f1
      replace k0 := cellk hbc k0
      replace k1 := cellk hbc k1
      have HSLc := Lib.hid (HSL1.out.below (by have := (Below.size HB1.out); have := HSZ.out; omega) hbc)
      have HBc := Lib.hid (bnext HB1.out hbc)
      have HRc := Lib.hid hr
      clear hbc hr
      go_wp2_with fail
      have hk : OnlyAt [w.heap.size + 1 + 1] wc ((wc.setCell ⟨w.heap.size + 1 + 1, 0, none⟩ (.slice ra rn rc)).setCell ⟨w.heap.size + 1 + 1, 1, none⟩ (.slice ra' rn' rc')) := (OnlyAt.setCell wc _ _ _).same (OnlyAt.setCell _ _ _ _)
      exact bodyPost_ret (v := .tuple #[.agg #[.slice ra rn rc, .slice ra' rn' rc'], .bool false]) (by simp [results, Try.results66, go_sem, k0, k1]) rfl ⟨_, _, _, _, _, _, by rw [HWBf.out], by rw [HWQf.out]; exact HRc.out.offS hk HSLc.out, OnlyAt.below HBc.out hk (fun x hx => by simp at hx; omega)⟩
    | true =>
      obtain ⟨hin1, hin2⟩ : 0 ≤ i ∧ i ≤ (n : Int) - 1 := by have := HP2.out; simpa [inB] using this
      have hal := below_alloc w1 (.cells #[] 3)
      have hlit := Built.lit .i64 3 w1 w1 [] (Nat.zero_le _) (Below.refl _ _)
      have HLIT : Hid (Built .i64 3 w1 (w1.alloc (.cells #[] 3)) (.slice (some ⟨w1.heap.size, 0, none⟩) 0 0) []) := Lib.hid (by simpa using hlit)
      have HHA := Lib.hid (HI.out.below (bnext HB1.out hal))
      have z1 := cellk hal q1
      clear hlit hal
      go_wp2_with (first | (go_at_call 91; refine (HIN.out _).mono ?_; rintro e w' ⟨rfl, rfl⟩) | (at_builtin; refine wpList_appInts rfl (.tmp 25) (.tmp 27) 22 rfl 3 Try.underlying22 info_i64 _ [] rfl HLIT.out _ d.1 rfl HHA.out (by have := HZ1.out; simp; omega) ?_))
      clear z1
      intro vh w2 hown
      have hbl := hown.below
      obtain ⟨va, vn, vc, rfl⟩ := (Ints.ofBuilt hown (by simpa using HI.out.1)).shape
      obtain ⟨bh, hoh, hnd, hfr⟩ := OInts.ofBuilt hown (by simpa using HI.out.1)
      have HOH : Hid (OInts w2 (.slice va vn vc) d.1 bh) := Lib.hid (by simpa using hoh)
      have HFH : Hid (∀ b ∈ bh, b ≠ w.heap.size) := fun b hb e => by have := (hfr b hb).1; have := HSZ.out; omega
      have HSL2 := Lib.hid (HSL1.out.below (by have := HSZ.out; omega) hbl)
      replace f0 := frok hbl k0 f0
      replace f1 := frok hbl k1 f1
      replace q0 := cellk hbl q0
      replace q1 := cellk hbl q1
      replace q2 := cellk hbl q2
      replace k0 := cellk hbl k0
      replace k1 := cellk hbl k1
      have HB2 := Lib.hid (bnext HB1.out hbl)
      have HSZ2 : Hid (w.heap.size + 3 ≤ w2.heap.size) := by have := hbl.size; have := HSZ.out; exact Lib.hid (by omega)
      clear hown hbl hoh hnd hfr HLIT HHA HSL1 HSZ
      have HSZ := HSZ2
      go_wp2_with fail
      obtain ⟨W3, hW⟩ : ∃ W3, W3 = w2.alloc (.cells #[.slice va vn vc, .slice none 0 0] 37) := ⟨_, rfl⟩
      have HBA : Hid (Below w2.heap.size w2 W3) := by rw [hW]; exact Lib.hid (below_alloc _ _)
      have HQ0 : Hid (QInv 113 w2 W3 (.slice va vn vc) [] (.slice none 0 0) []) := by
        refine ⟨BuiltA.nil _ _ _ HBA.out, by rw [hW]; simp, by rw [hW]; simp, by rw [hW]; simp, fun b hb => by simp [blk] at hb, fun b hb => by simp at hb, by rw [hW]; simp⟩
      rw [← hW]
      have KQ0 := Lib.hid q0
      have KQ1 := Lib.hid q1
      have KQ2 := Lib.hid q2
      have KK0 := Lib.hid k0
      have KK1 := Lib.hid k1
      have KF0 := Lib.hid f0
      have KF1 := Lib.hid f1
      clear hW HBA q0 q1 q2 k0 k1 f0 f1
      go_loopw [9] (fun iv wr => ∃ k : Nat, k ≤ n ∧ iv = .int .i64 k ∧ ∃ xv bss, QInv 113 w2 wr (.slice va vn vc) (cutA (d.2.take k) i.toNat) xv bss) (fun iv _ => n - (intOf iv).toNat)
      case atStart => exact ⟨0, by omega, rfl, _, _, by simpa [cutA] using HQ0.out⟩
      case round =>
        obtain ⟨k, hk, rfl, xv, bss, hq⟩ := hrel
        have HQI := Lib.hid hq
        obtain ⟨hba, kx1, kx0, kxf, hx6, _, hxs⟩ := hq
        have HXB : Hid (w2.heap.size ∉ blk xv) := fun hx => (hx6 _ hx).1 rfl
        have HXS := Lib.hid hxs
        clear hx6
        have hbq := hba.below
        have q0 := cellk hbq KQ0.out
        have q2 := cellk hbq KQ2.out
        obtain ⟨xa, xn, xc, rfl⟩ := HQI.out.slice
        by_cases hlt : k < n
        · by_cases hki : (k : Int) = i
          · have HNX : Hid (cutA (d.2.take (k + 1)) i.toNat = cutA (d.2.take k) i.toNat) := by
              have : i.toNat = k := by omega
              rw [this]; exact Lib.hid (cutA_eq (by rw [HL.out]; exact hlt))
            subst hki
            clear hba hxs hbq
            go_wp2_with fail
            exact ⟨⟨k + 1, by omega, by simp, _, _, by rw [HNX.out]; exact HQI.out⟩, by simp [intOf]; omega⟩
          · obtain ⟨b, off, rfl, hbw, hc⟩ := HC.out (by omega)
            obtain ⟨e, hd⟩ : ∃ e, d.2[k]? = some e := ⟨d.2[k]'(by rw [HL.out]; exact hlt), List.getElem?_eq_getElem (by rw [HL.out]; exact hlt)⟩
            obtain ⟨ea, em, ec, c0, c1, hdi, hints⟩ := atomAt (n := n) hc k e hd
            have hww := bnext HB2.out hbq
            have j0 := cellk hww c0
            have j1 := cellk hww c1
            have HRT := Lib.hid (cutA_ne hd (show k ≠ i.toNat by omega))
            have hi0 : (0 : Int) ≤ k := by omega
            have hi1 : (k : Int) < n := by omega
            have hbx : ∀ x ∈ blk (.slice xa xn xc), w2.heap.size ≤ x := by
              obtain ⟨cs, hc1, _⟩ := hba
              rcases hc1.form with ⟨e, _⟩ | ⟨g, cap, e, _, _⟩
              · rw [e]; intro x hx; simp [blk] at hx
              · rw [e] at hc1 ⊢; intro x hx; simp [blk] at hx; subst hx; exact hc1.lt.1
            have hnb : w.heap.size + 1 < w2.heap.size := by have := HSZ.out; omega
            have hnb2 : b < w2.heap.size := by have := HSZ.out; omega
            have HN0 : Hid (w.heap.size + 1 ∉ blk (.slice xa xn xc)) := fun hx => by have := hbx _ hx; omega
            have HN1 : Hid (b ∉ blk (.slice xa xn xc)) := fun hx => by have := hbx _ hx; omega
            clear hbx
            have hlen2 : (cutA (d.2.take k) i.toNat).length ≤ k := by have := cutA_len2 (d.2.take k) i.toNat; simp at this; omega
            have hez : e.2.length ≤ 1048576 := by
              have h8 := hints.len_le
              have h5 := sumArgs_take hd
              have h6 := sumArgs_le d.2 (k + 1)
              have h7 := HSA.out
              unfold sizeAtomS at h7
              omega
            have HDI := Lib.hid hdi
            have hal := below_alloc wr (.cells #[] 3)
            have hlit := Built.lit .i64 3 wr wr [] (Nat.zero_le _) (Below.refl _ _)
            have hlit2 : Built .i64 3 wr (wr.alloc (.cells #[] 3)) (.slice (some ⟨wr.heap.size, 0, none⟩) 0 0) [] := by simpa using hlit
            have HLIT := Lib.hid hlit2.drew
            have HIA := Lib.hid (hints.below (bnext hww hal.drew))
            have HEI := Lib.hid hints.1
            have a0 := cellk hal q2
            have a1 := cellk hal kx1
            have a2 := cellk hal j0
            have a3 := cellk hal j1
            obtain ⟨cs, hc1, hc2⟩ := hba
            have HC1 := Lib.hid hc1
            have HC2 := Lib.hid hc2
            have HEZ := Lib.hid hez
            generalize hLL : cutA (d.2.take k) i.toNat = L at *
            generalize e.1 = r at *
            generalize e.2 = l at *
            clear hc hbw hd c0 c1 hdi hints hww hez hc1 hc2 hbq hlit hlit2 hal
            go_wp2_with fail
            refine wp_region_noPanic ?_
            refine wp_region_held_drew (S := (fun w' => w'.cell? ⟨w.heap.size + 1, 1, none⟩ = some (.slice (some ⟨b, off, none⟩) n c) ∧ w'.cell? ⟨b, off + k * 2, none⟩ = some (.int .i64 r) ∧ w'.cell? ⟨b, off + k * 2 + 1, none⟩ = some (.slice ea em ec))) (by kernel_rfl) ?_ (fun hHeld => ?_)
            · (try dsimp only)
              (first | exact ⟨by simpa using q2, by simpa using j0, by simpa using j1⟩ | exact ⟨by simpa using a0, by simpa using a2, by simpa using a3⟩ | exact ⟨y0, y1, y3⟩ | exact ⟨cellk (below_alloc _ _) y0, cellk (below_alloc _ _) y1, cellk (below_alloc _ _) y3⟩ | exact ⟨x0, x1, x3⟩ | exact ⟨(World.cell?_setCell_other _ _ _ _ (by intro e; have := congrArg Addr.block e; simp at this; omega)).trans x0, (World.cell?_setCell_other _ _ _ _ (by intro e; have := congrArg Addr.block e; simp at this; omega)).trans x1, (World.cell?_setCell_other _ _ _ _ (by intro e; have := congrArg Addr.block e; simp at this; omega)).trans x3⟩)
            refine wpAnyH_take (i := 0) (oi := _) (v := ?_) rfl (by kernel_rfl) (by kernel_rfl) (by kernel_rfl) (fun _ _ _ h => h) (Or.inl ⟨by rfl, ?_⟩) (by assumption) ?_
            rotate_left
            · (intro w hSw; (try dsimp only at hSw); go_simp <;> with_reducible rfl)
            (try simp only [Act.put, List.setIfInBounds_toArray, List.set_cons_zero, List.set_cons_succ])
            refine wpAnyH_take (i := 2) (oi := _) (v := ?_) rfl (by kernel_rfl) (by kernel_rfl) (by kernel_rfl) (fun _ _ _ h => h) (Or.inl ⟨by rfl, ?_⟩) (by assumption) ?_
            rotate_left
            · (intro w hSw; (try dsimp only at hSw); go_simp <;> with_reducible rfl)
            (try simp only [Act.put, List.setIfInBounds_toArray, List.set_cons_zero, List.set_cons_succ])
            refine wpAnyH_take (i := 3) (oi := _) (v := ?_) rfl (by kernel_rfl) (by kernel_rfl) (by kernel_rfl) (fun _ _ _ h => h) (Or.inl ⟨by rfl, ?_⟩) (by assumption) ?_
            rotate_left
            · (intro w hSw; (try dsimp only at hSw); go_simp <;> with_reducible rfl)
            (try simp only [Act.put, List.setIfInBounds_toArray, List.set_cons_zero, List.set_cons_succ])
            refine wpAnyH_take (i := 4) (oi := _) (v := ?_) rfl (by kernel_rfl) (by kernel_rfl) (by kernel_rfl) (fun _ _ _ h => h) (Or.inl ⟨by rfl, ?_⟩) (by assumption) ?_
            rotate_left
            · (intro w hSw; (try dsimp only at hSw); go_simp <;> with_reducible rfl)
            (try simp only [Act.put, List.setIfInBounds_toArray, List.set_cons_zero, List.set_cons_succ])
            refine wpAnyH_take (i := 5) (oi := _) (v := ?_) rfl (by kernel_rfl) (by kernel_rfl) (by kernel_rfl) (fun _ _ _ h => h) (Or.inl ⟨by rfl, ?_⟩) (by assumption) ?_
            rotate_left
            · (intro w hSw; (try dsimp only at hSw); go_simp <;> with_reducible rfl)
            (try simp only [Act.put, List.setIfInBounds_toArray, List.set_cons_zero, List.set_cons_succ])
            refine wpAnyH_take (i := 6) (oi := _) (v := ?_) rfl (by kernel_rfl) (by kernel_rfl) (by kernel_rfl) (fun _ _ _ h => h) (Or.inl ⟨by rfl, ?_⟩) (by assumption) ?_
            rotate_left
            · (intro w hSw; (try dsimp only at hSw); go_simp <;> with_reducible rfl)
            (try simp only [Act.put, List.setIfInBounds_toArray, List.set_cons_zero, List.set_cons_succ])
            refine wpAnyH_take (i := 7) (oi := _) (v := ?_) rfl (by kernel_rfl) (by kernel_rfl) (by kernel_rfl) (fun _ _ _ h => h) (Or.inl ⟨by rfl, ?_⟩) (by assumption) ?_
            rotate_left
            · (intro w hSw; (try dsimp only at hSw); go_simp <;> with_reducible rfl)
            (try simp only [Act.put, List.setIfInBounds_toArray, List.set_cons_zero, List.set_cons_succ])
            refine wpAnyH_take (i := 9) (oi := _) (v := ?_) rfl (by kernel_rfl) (by kernel_rfl) (by kernel_rfl) (fun _ _ _ h => h) (Or.inl ⟨by rfl, ?_⟩) (by assumption) ?_
            rotate_left
            · (intro w hSw; (try dsimp only at hSw); go_simp <;> with_reducible rfl)
            (try simp only [Act.put, List.setIfInBounds_toArray, List.set_cons_zero, List.set_cons_succ])
            refine wpAnyH_take (i := 10) (oi := _) (v := ?_) rfl (by kernel_rfl) (by kernel_rfl) (by kernel_rfl) (fun _ _ _ h => h) (Or.inl ⟨by rfl, ?_⟩) (by assumption) ?_
            rotate_left
            · (intro w hSw; (try dsimp only at hSw); go_simp <;> with_reducible rfl)
            (try simp only [Act.put, List.setIfInBounds_toArray, List.set_cons_zero, List.set_cons_succ])
            refine wpAnyH_take (i := 11) (oi := _) (v := ?_) rfl (by kernel_rfl) (by kernel_rfl) (by kernel_rfl) (fun _ _ _ h => h) (Or.inl ⟨by rfl, ?_⟩) (by assumption) ?_
            rotate_left
            · (intro w hSw; (try dsimp only at hSw); go_simp <;> with_reducible rfl)
            (try simp only [Act.put, List.setIfInBounds_toArray, List.set_cons_zero, List.set_cons_succ])
            refine wpAnyH_take (i := 12) (oi := _) (v := ?_) rfl (by kernel_rfl) (by kernel_rfl) (by kernel_rfl) (fun _ _ _ h => h) (Or.inl ⟨by rfl, ?_⟩) (by assumption) ?_
            rotate_left
            · (intro w hSw; (try dsimp only at hSw); go_simp <;> with_reducible rfl)
            (try simp only [Act.put, List.setIfInBounds_toArray, List.set_cons_zero, List.set_cons_succ])
            refine wpAnyH_take (i := 13) (oi := _) (v := ?_) rfl (by kernel_rfl) (by kernel_rfl) (by kernel_rfl) (fun _ _ _ h => h) (Or.inl ⟨by rfl, ?_⟩) (by assumption) ?_
            rotate_left
            · (intro w hSw; (try dsimp only at hSw); go_simp <;> with_reducible rfl)
            (try simp only [Act.put, List.setIfInBounds_toArray, List.set_cons_zero, List.set_cons_succ])
            refine wpAnyH_take (i := 14) (oi := _) (v := ?_) rfl (by kernel_rfl) (by kernel_rfl) (by kernel_rfl) (fun _ _ _ h => h) (Or.inl ⟨by rfl, ?_⟩) (by assumption) ?_
            rotate_left
            · (intro w hSw; (try dsimp only at hSw); go_simp <;> with_reducible rfl)
            (try simp only [Act.put, List.setIfInBounds_toArray, List.set_cons_zero, List.set_cons_succ])
            refine wpAnyH_ready (rs := [1, 8]) (by kernel_rfl) (by simp) ?_
            refine AllReadyH.cons (o := _) rfl (fun K hK => ?_) ?_
            · go_simp
              refine hK.out _ _ ?_ (fun hHeld => ?_)
              · (try dsimp only)
                (first | exact ⟨by simpa using q2, by simpa using j0, by simpa using j1⟩ | exact ⟨by simpa using a0, by simpa using a2, by simpa using a3⟩ | exact ⟨y0, y1, y3⟩ | exact ⟨cellk (below_alloc _ _) y0, cellk (below_alloc _ _) y1, cellk (below_alloc _ _) y3⟩ | exact ⟨x0, x1, x3⟩ | exact ⟨(World.cell?_setCell_other _ _ _ _ (by intro e; have := congrArg Addr.block e; simp at this; omega)).trans x0, (World.cell?_setCell_other _ _ _ _ (by intro e; have := congrArg Addr.block e; simp at this; omega)).trans x1, (World.cell?_setCell_other _ _ _ _ (by intro e; have := congrArg Addr.block e; simp at this; omega)).trans x3⟩)
              clear hK K
              (try simp only [Act.put, List.setIfInBounds_toArray, List.set_cons_zero, List.set_cons_succ])
              refine wpAnyH_ready (rs := [8]) (by kernel_rfl) (by simp) ?_
              refine AllReadyH.cons (o := _) rfl (fun K hK => ?_) ?_
              · go_simp
                refine hK.out _ _ ?_ (fun hHeld => ?_)
                · (try dsimp only)
                  (first | exact ⟨by simpa using q2, by simpa using j0, by simpa using j1⟩ | exact ⟨by simpa using a0, by simpa using a2, by simpa using a3⟩ | exact ⟨y0, y1, y3⟩ | exact ⟨cellk (below_alloc _ _) y0, cellk (below_alloc _ _) y1, cellk (below_alloc _ _) y3⟩ | exact ⟨x0, x1, x3⟩ | exact ⟨(World.cell?_setCell_other _ _ _ _ (by intro e; have := congrArg Addr.block e; simp at this; omega)).trans x0, (World.cell?_setCell_other _ _ _ _ (by intro e; have := congrArg Addr.block e; simp at this; omega)).trans x1, (World.cell?_setCell_other _ _ _ _ (by intro e; have := congrArg Addr.block e; simp at this; omega)).trans x3⟩)
                clear hK K
                (try simp only [Act.put, List.setIfInBounds_toArray, List.set_cons_zero, List.set_cons_succ])
                refine wpAnyH_ready (rs := [15]) (by kernel_rfl) (by simp) ?_
                refine AllReadyH.cons (o := _) rfl (fun K hK => ?_) ?_
                · (refine step_appInts (by rfl) (.tmp 48) (.tmp 54) 22 (by rfl) 3 Try.underlying22 info_i64 _ [] (by rfl) HLIT.out _ l (by rfl) HIA.out (by have := HEZ.out; simp; omega) ?_; intro v' w3 hown; obtain ⟨ba, bn, bc, rfl⟩ := (Ints.ofBuilt hown (by simpa using HEI.out)).shape; obtain ⟨bsb, hob, hnd, hfb⟩ := OInts.ofBuilt hown (by simpa using HEI.out); have HOB : Hid (OInts w3 (.slice ba bn bc) l bsb) := Lib.hid (by simpa using hob); have HFB := Lib.hid hfb; have HB3 := Lib.hid hown.below; have y0 := cellk HB3.out q2; have y1 := cellk HB3.out j0; have y3 := cellk HB3.out j1; have y4 := cellk HB3.out kx1; have y7 := cellk (below_alloc w3 (.cells #[.int .i64 r, .slice ba bn bc] 113)) y4; have HC1c := Lib.hid (HC1.out.grow HB3.out); clear hown hob hnd hfb)
                  refine hK.out _ _ ?_ (fun hHeld => ?_)
                  · (try dsimp only)
                    (first | exact ⟨by simpa using q2, by simpa using j0, by simpa using j1⟩ | exact ⟨by simpa using a0, by simpa using a2, by simpa using a3⟩ | exact ⟨y0, y1, y3⟩ | exact ⟨cellk (below_alloc _ _) y0, cellk (below_alloc _ _) y1, cellk (below_alloc _ _) y3⟩ | exact ⟨x0, x1, x3⟩ | exact ⟨(World.cell?_setCell_other _ _ _ _ (by intro e; have := congrArg Addr.block e; simp at this; omega)).trans x0, (World.cell?_setCell_other _ _ _ _ (by intro e; have := congrArg Addr.block e; simp at this; omega)).trans x1, (World.cell?_setCell_other _ _ _ _ (by intro e; have := congrArg Addr.block e; simp at this; omega)).trans x3⟩)
                  clear hK K
                  (try simp only [Act.put, List.setIfInBounds_toArray, List.set_cons_zero, List.set_cons_succ])
                  refine wpAnyH_take (i := 16) (oi := _) (v := ?_) rfl (by kernel_rfl) (by kernel_rfl) (by kernel_rfl) (fun _ _ _ h => h) (Or.inl ⟨by rfl, ?_⟩) (by assumption) ?_
                  rotate_left
                  · (intro w hSw; (try dsimp only at hSw); go_simp <;> with_reducible rfl)
                  (try simp only [Act.put, List.setIfInBounds_toArray, List.set_cons_zero, List.set_cons_succ])
                  refine wpAnyH_ready (rs := [17]) (by kernel_rfl) (by simp) ?_
                  refine AllReadyH.cons (o := _) rfl (fun K hK => ?_) ?_
                  · go_simp
                    refine hK.out _ _ ?_ (fun hHeld => ?_)
                    · (try dsimp only)
                      (first | exact ⟨by simpa using q2, by simpa using j0, by simpa using j1⟩ | exact ⟨by simpa using a0, by simpa using a2, by simpa using a3⟩ | exact ⟨y0, y1, y3⟩ | exact ⟨cellk (below_alloc _ _) y0, cellk (below_alloc _ _) y1, cellk (below_alloc _ _) y3⟩ | exact ⟨x0, x1, x3⟩ | exact ⟨(World.cell?_setCell_other _ _ _ _ (by intro e; have := congrArg Addr.block e; simp at this; omega)).trans x0, (World.cell?_setCell_other _ _ _ _ (by intro e; have := congrArg Addr.block e; simp at this; omega)).trans x1, (World.cell?_setCell_other _ _ _ _ (by intro e; have := congrArg Addr.block e; simp at this; omega)).trans x3⟩)
                    clear hK K
                    (try simp only [Act.put, List.setIfInBounds_toArray, List.set_cons_zero, List.set_cons_succ])
                    refine wpAnyH_ready (rs := [18]) (by kernel_rfl) (by simp) ?_
                    refine AllReadyH.cons (o := _) rfl (fun K hK => ?_) ?_
                    · (refine step_app1D (by rfl) (.tmp 41) (.tmp 57) 35 (by rfl) 113 (.agg #[.int .i64 0, .slice none 0 0]) 2 32 Try.underlying35 info_Atom (by decide) (by decide) (by rfl) (.slice xa xn xc) L.length cs (by rfl) (HC1c.out.grow (below_alloc _ _)) w3.heap.size [.int .i64 r, .slice ba bn bc] (by rfl) (by simp [Value.oneCell']) (by rfl) (heap_alloc_new w3 _) (by omega) ?_; intro g' cap' w4 hown' ko hbl; have z1 := ko.cell HXB.out (cellk (below_alloc w3 _) y4); have z2 := ko.frozen (o := 1) (Nat.lt_of_lt_of_le HXS.out (Nat.le_trans HB3.out.size (below_alloc w3 _).size)) HXB.out (frok (below_alloc w3 _) y4 (frok HB3.out kx1 kxf)); have x0 := ko.cell HN0.out (cellk (below_alloc w3 _) y0); have x1 := ko.cell HN1.out (cellk (below_alloc w3 _) y1); have x3 := ko.cell HN1.out (cellk (below_alloc w3 _) y3); have HNEW := Lib.hid (QInv.step HQI.out HC1.out HC2.out HB3.out (below_alloc w3 _) HOB.out HFB.out HDI.out hown' ko (fun b hb => (hbl b hb).imp id (fun e => by rw [e]; exact Nat.le_refl _))))
                      refine hK.out _ _ ?_ (fun hHeld => ?_)
                      · (try dsimp only)
                        (first | exact ⟨by simpa using q2, by simpa using j0, by simpa using j1⟩ | exact ⟨by simpa using a0, by simpa using a2, by simpa using a3⟩ | exact ⟨y0, y1, y3⟩ | exact ⟨cellk (below_alloc _ _) y0, cellk (below_alloc _ _) y1, cellk (below_alloc _ _) y3⟩ | exact ⟨x0, x1, x3⟩ | exact ⟨(World.cell?_setCell_other _ _ _ _ (by intro e; have := congrArg Addr.block e; simp at this; omega)).trans x0, (World.cell?_setCell_other _ _ _ _ (by intro e; have := congrArg Addr.block e; simp at this; omega)).trans x1, (World.cell?_setCell_other _ _ _ _ (by intro e; have := congrArg Addr.block e; simp at this; omega)).trans x3⟩)
                      clear hK K
                      (try simp only [Act.put, List.setIfInBounds_toArray, List.set_cons_zero, List.set_cons_succ])
                      refine wpAnyH_take (i := 19) (oi := _) (v := ?_) rfl (by kernel_rfl) (by kernel_rfl) (by kernel_rfl) (fun _ _ _ h => h) (Or.inl ⟨by rfl, ?_⟩) (by assumption) ?_
                      rotate_left
                      · (intro w hSw; (try dsimp only at hSw); go_simp <;> with_reducible rfl)
                      (try simp only [Act.put, List.setIfInBounds_toArray, List.set_cons_zero, List.set_cons_succ])
                      refine wpAnyH_ready (rs := [20]) (by kernel_rfl) (by simp) ?_
                      refine AllReadyH.cons (o := _) rfl (fun K hK => ?_) ?_
                      · go_simp
                        refine hK.out _ _ ?_ (fun hHeld => ?_)
                        · (try dsimp only)
                          (first | exact ⟨by simpa using q2, by simpa using j0, by simpa using j1⟩ | exact ⟨by simpa using a0, by simpa using a2, by simpa using a3⟩ | exact ⟨y0, y1, y3⟩ | exact ⟨cellk (below_alloc _ _) y0, cellk (below_alloc _ _) y1, cellk (below_alloc _ _) y3⟩ | exact ⟨x0, x1, x3⟩ | exact ⟨(World.cell?_setCell_other _ _ _ _ (by intro e; have := congrArg Addr.block e; simp at this; omega)).trans x0, (World.cell?_setCell_other _ _ _ _ (by intro e; have := congrArg Addr.block e; simp at this; omega)).trans x1, (World.cell?_setCell_other _ _ _ _ (by intro e; have := congrArg Addr.block e; simp at this; omega)).trans x3⟩)
                        clear hK K
                        (try simp only [Act.put, List.setIfInBounds_toArray, List.set_cons_zero, List.set_cons_succ])
                        refine wpAnyH_done (by kernel_rfl) ?_ _
                        refine NoPanic.normal ?_
                        go_wp2_with fail
                        exact ⟨⟨k + 1, by omega, by simp, _, _, by rw [HRT.out]; exact HNEW.out⟩, by simp [intOf]; omega⟩
                      exact AllReadyH.nil
                    exact AllReadyH.nil
                  exact AllReadyH.nil
                exact AllReadyH.nil
              exact AllReadyH.nil
            refine AllReadyH.cons (o := _) rfl (fun K hK => ?_) ?_
            · go_simp
              refine hK.out _ _ ?_ (fun hHeld => ?_)
              · (try dsimp only)
                (first | exact ⟨by simpa using q2, by simpa using j0, by simpa using j1⟩ | exact ⟨by simpa using a0, by simpa using a2, by simpa using a3⟩ | exact ⟨y0, y1, y3⟩ | exact ⟨cellk (below_alloc _ _) y0, cellk (below_alloc _ _) y1, cellk (below_alloc _ _) y3⟩ | exact ⟨x0, x1, x3⟩ | exact ⟨(World.cell?_setCell_other _ _ _ _ (by intro e; have := congrArg Addr.block e; simp at this; omega)).trans x0, (World.cell?_setCell_other _ _ _ _ (by intro e; have := congrArg Addr.block e; simp at this; omega)).trans x1, (World.cell?_setCell_other _ _ _ _ (by intro e; have := congrArg Addr.block e; simp at this; omega)).trans x3⟩)
              clear hK K
              (try simp only [Act.put, List.setIfInBounds_toArray, List.set_cons_zero, List.set_cons_succ])
              refine wpAnyH_ready (rs := [1, 15]) (by kernel_rfl) (by simp) ?_
              refine AllReadyH.cons (o := _) rfl (fun K hK => ?_) ?_
              · go_simp
                refine hK.out _ _ ?_ (fun hHeld => ?_)
                · (try dsimp only)
                  (first | exact ⟨by simpa using q2, by simpa using j0, by simpa using j1⟩ | exact ⟨by simpa using a0, by simpa using a2, by simpa using a3⟩ | exact ⟨y0, y1, y3⟩ | exact ⟨cellk (below_alloc _ _) y0, cellk (below_alloc _ _) y1, cellk (below_alloc _ _) y3⟩ | exact ⟨x0, x1, x3⟩ | exact ⟨(World.cell?_setCell_other _ _ _ _ (by intro e; have := congrArg Addr.block e; simp at this; omega)).trans x0, (World.cell?_setCell_other _ _ _ _ (by intro e; have := congrArg Addr.block e; simp at this; omega)).trans x1, (World.cell?_setCell_other _ _ _ _ (by intro e; have := congrArg Addr.block e; simp at this; omega)).trans x3⟩)
                clear hK K
                (try simp only [Act.put, List.setIfInBounds_toArray, List.set_cons_zero, List.set_cons_succ])
                refine wpAnyH_ready (rs := [15]) (by kernel_rfl) (by simp) ?_
                refine AllReadyH.cons (o := _) rfl (fun K hK => ?_) ?_
                · (refine step_appInts (by rfl) (.tmp 48) (.tmp 54) 22 (by rfl) 3 Try.underlying22 info_i64 _ [] (by rfl) HLIT.out _ l (by rfl) HIA.out (by have := HEZ.out; simp; omega) ?_; intro v' w3 hown; obtain ⟨ba, bn, bc, rfl⟩ := (Ints.ofBuilt hown (by simpa using HEI.out)).shape; obtain ⟨bsb, hob, hnd, hfb⟩ := OInts.ofBuilt hown (by simpa using HEI.out); have HOB : Hid (OInts w3 (.slice ba bn bc) l bsb) := Lib.hid (by simpa using hob); have HFB := Lib.hid hfb; have HB3 := Lib.hid hown.below; have y0 := cellk HB3.out q2; have y1 := cellk HB3.out j0; have y3 := cellk HB3.out j1; have y4 := cellk HB3.out kx1; have y7 := cellk (below_alloc w3 (.cells #[.int .i64 r, .slice ba bn bc] 113)) y4; have HC1c := Lib.hid (HC1.out.grow HB3.out); clear hown hob hnd hfb)
                  refine hK.out _ _ ?_ (fun hHeld => ?_)
                  · (try dsimp only)
                    (first | exact ⟨by simpa using q2, by simpa using j0, by simpa using j1⟩ | exact ⟨by simpa using a0, by simpa using a2, by simpa using a3⟩ | exact ⟨y0, y1, y3⟩ | exact ⟨cellk (below_alloc _ _) y0, cellk (below_alloc _ _) y1, cellk (below_alloc _ _) y3⟩ | exact ⟨x0, x1, x3⟩ | exact ⟨(World.cell?_setCell_other _ _ _ _ (by intro e; have := congrArg Addr.block e; simp at this; omega)).trans x0, (World.cell?_setCell_other _ _ _ _ (by intro e; have := congrArg Addr.block e; simp at this; omega)).trans x1, (World.cell?_setCell_other _ _ _ _ (by intro e; have := congrArg Addr.block e; simp at this; omega)).trans x3⟩)
                  clear hK K
                  (try simp only [Act.put, List.setIfInBounds_toArray, List.set_cons_zero, List.set_cons_succ])
                  refine wpAnyH_take (i := 16) (oi := _) (v := ?_) rfl (by kernel_rfl) (by kernel_rfl) (by kernel_rfl) (fun _ _ _ h => h) (Or.inl ⟨by rfl, ?_⟩) (by assumption) ?_
                  rotate_left
                  · (intro w hSw; (try dsimp only at hSw); go_simp <;> with_reducible rfl)
                  (try simp only [Act.put, List.setIfInBounds_toArray, List.set_cons_zero, List.set_cons_succ])
                  refine wpAnyH_ready (rs := [17]) (by kernel_rfl) (by simp) ?_
                  refine AllReadyH.cons (o := _) rfl (fun K hK => ?_) ?_
                  · go_simp
                    refine hK.out _ _ ?_ (fun hHeld => ?_)
                    · (try dsimp only)
                      (first | exact ⟨by simpa using q2, by simpa using j0, by simpa using j1⟩ | exact ⟨by simpa using a0, by simpa using a2, by simpa using a3⟩ | exact ⟨y0, y1, y3⟩ | exact ⟨cellk (below_alloc _ _) y0, cellk (below_alloc _ _) y1, cellk (below_alloc _ _) y3⟩ | exact ⟨x0, x1, x3⟩ | exact ⟨(World.cell?_setCell_other _ _ _ _ (by intro e; have := congrArg Addr.block e; simp at this; omega)).trans x0, (World.cell?_setCell_other _ _ _ _ (by intro e; have := congrArg Addr.block e; simp at this; omega)).trans x1, (World.cell?_setCell_other _ _ _ _ (by intro e; have := congrArg Addr.block e; simp at this; omega)).trans x3⟩)
                    clear hK K
                    (try simp only [Act.put, List.setIfInBounds_toArray, List.set_cons_zero, List.set_cons_succ])
                    refine wpAnyH_ready (rs := [18]) (by kernel_rfl) (by simp) ?_
                    refine AllReadyH.cons (o := _) rfl (fun K hK => ?_) ?_
                    · (refine step_app1D (by rfl) (.tmp 41) (.tmp 57) 35 (by rfl) 113 (.agg #[.int .i64 0, .slice none 0 0]) 2 32 Try.underlying35 info_Atom (by decide) (by decide) (by rfl) (.slice xa xn xc) L.length cs (by rfl) (HC1c.out.grow (below_alloc _ _)) w3.heap.size [.int .i64 r, .slice ba bn bc] (by rfl) (by simp [Value.oneCell']) (by rfl) (heap_alloc_new w3 _) (by omega) ?_; intro g' cap' w4 hown' ko hbl; have z1 := ko.cell HXB.out (cellk (below_alloc w3 _) y4); have z2 := ko.frozen (o := 1) (Nat.lt_of_lt_of_le HXS.out (Nat.le_trans HB3.out.size (below_alloc w3 _).size)) HXB.out (frok (below_alloc w3 _) y4 (frok HB3.out kx1 kxf)); have x0 := ko.cell HN0.out (cellk (below_alloc w3 _) y0); have x1 := ko.cell HN1.out (cellk (below_alloc w3 _) y1); have x3 := ko.cell HN1.out (cellk (below_alloc w3 _) y3); have HNEW := Lib.hid (QInv.step HQI.out HC1.out HC2.out HB3.out (below_alloc w3 _) HOB.out HFB.out HDI.out hown' ko (fun b hb => (hbl b hb).imp id (fun e => by rw [e]; exact Nat.le_refl _))))
                      refine hK.out _ _ ?_ (fun hHeld => ?_)
                      · (try dsimp only)
                        (first | exact ⟨by simpa using q2, by simpa using j0, by simpa using j1⟩ | exact ⟨by simpa using a0, by simpa using a2, by simpa using a3⟩ | exact ⟨y0, y1, y3⟩ | exact ⟨cellk (below_alloc _ _) y0, cellk (below_alloc _ _) y1, cellk (below_alloc _ _) y3⟩ | exact ⟨x0, x1, x3⟩ | exact ⟨(World.cell?_setCell_other _ _ _ _ (by intro e; have := congrArg Addr.block e; simp at this; omega)).trans x0, (World.cell?_setCell_other _ _ _ _ (by intro e; have := congrArg Addr.block e; simp at this; omega)).trans x1, (World.cell?_setCell_other _ _ _ _ (by intro e; have := congrArg Addr.block e; simp at this; omega)).trans x3⟩)
                      clear hK K
                      (try simp only [Act.put, List.setIfInBounds_toArray, List.set_cons_zero, List.set_cons_succ])
                      refine wpAnyH_take (i := 19) (oi := _) (v := ?_) rfl (by kernel_rfl) (by kernel_rfl) (by kernel_rfl) (fun _ _ _ h => h) (Or.inl ⟨by rfl, ?_⟩) (by assumption) ?_
                      rotate_left
                      · (intro w hSw; (try dsimp only at hSw); go_simp <;> with_reducible rfl)
                      (try simp only [Act.put, List.setIfInBounds_toArray, List.set_cons_zero, List.set_cons_succ])
                      refine wpAnyH_ready (rs := [20]) (by kernel_rfl) (by simp) ?_
                      refine AllReadyH.cons (o := _) rfl (fun K hK => ?_) ?_
                      · go_simp
                        refine hK.out _ _ ?_ (fun hHeld => ?_)
                        · (try dsimp only)
                          (first | exact ⟨by simpa using q2, by simpa using j0, by simpa using j1⟩ | exact ⟨by simpa using a0, by simpa using a2, by simpa using a3⟩ | exact ⟨y0, y1, y3⟩ | exact ⟨cellk (below_alloc _ _) y0, cellk (below_alloc _ _) y1, cellk (below_alloc _ _) y3⟩ | exact ⟨x0, x1, x3⟩ | exact ⟨(World.cell?_setCell_other _ _ _ _ (by intro e; have := congrArg Addr.block e; simp at this; omega)).trans x0, (World.cell?_setCell_other _ _ _ _ (by intro e; have := congrArg Addr.block e; simp at this; omega)).trans x1, (World.cell?_setCell_other _ _ _ _ (by intro e; have := congrArg Addr.block e; simp at this; omega)).trans x3⟩)
                        clear hK K
                        (try simp only [Act.put, List.setIfInBounds_toArray, List.set_cons_zero, List.set_cons_succ])
                        refine wpAnyH_done (by kernel_rfl) ?_ _
                        refine NoPanic.normal ?_
                        go_wp2_with fail
                        exact ⟨⟨k + 1, by omega, by simp, _, _, by rw [HRT.out]; exact HNEW.out⟩, by simp [intOf]; omega⟩
                      exact AllReadyH.nil
                    exact AllReadyH.nil
                  exact AllReadyH.nil
                exact AllReadyH.nil
              refine AllReadyH.cons (o := _) rfl (fun K hK => ?_) ?_
              · (refine step_appInts (by rfl) (.tmp 48) (.tmp 54) 22 (by rfl) 3 Try.underlying22 info_i64 _ [] (by rfl) HLIT.out _ l (by rfl) HIA.out (by have := HEZ.out; simp; omega) ?_; intro v' w3 hown; obtain ⟨ba, bn, bc, rfl⟩ := (Ints.ofBuilt hown (by simpa using HEI.out)).shape; obtain ⟨bsb, hob, hnd, hfb⟩ := OInts.ofBuilt hown (by simpa using HEI.out); have HOB : Hid (OInts w3 (.slice ba bn bc) l bsb) := Lib.hid (by simpa using hob); have HFB := Lib.hid hfb; have HB3 := Lib.hid hown.below; have y0 := cellk HB3.out q2; have y1 := cellk HB3.out j0; have y3 := cellk HB3.out j1; have y4 := cellk HB3.out kx1; have y7 := cellk (below_alloc w3 (.cells #[.int .i64 r, .slice ba bn bc] 113)) y4; have HC1c := Lib.hid (HC1.out.grow HB3.out); clear hown hob hnd hfb)
                refine hK.out _ _ ?_ (fun hHeld => ?_)
                · (try dsimp only)
                  (first | exact ⟨by simpa using q2, by simpa using j0, by simpa using j1⟩ | exact ⟨by simpa using a0, by simpa using a2, by simpa using a3⟩ | exact ⟨y0, y1, y3⟩ | exact ⟨cellk (below_alloc _ _) y0, cellk (below_alloc _ _) y1, cellk (below_alloc _ _) y3⟩ | exact ⟨x0, x1, x3⟩ | exact ⟨(World.cell?_setCell_other _ _ _ _ (by intro e; have := congrArg Addr.block e; simp at this; omega)).trans x0, (World.cell?_setCell_other _ _ _ _ (by intro e; have := congrArg Addr.block e; simp at this; omega)).trans x1, (World.cell?_setCell_other _ _ _ _ (by intro e; have := congrArg Addr.block e; simp at this; omega)).trans x3⟩)
                clear hK K
                (try simp only [Act.put, List.setIfInBounds_toArray, List.set_cons_zero, List.set_cons_succ])
                refine wpAnyH_take (i := 16) (oi := _) (v := ?_) rfl (by kernel_rfl) (by kernel_rfl) (by kernel_rfl) (fun _ _ _ h => h) (Or.inl ⟨by rfl, ?_⟩) (by assumption) ?_
                rotate_left
                · (intro w hSw; (try dsimp only at hSw); go_simp <;> with_reducible rfl)
                (try simp only [Act.put, List.setIfInBounds_toArray, List.set_cons_zero, List.set_cons_succ])
                refine wpAnyH_ready (rs := [1, 17]) (by kernel_rfl) (by simp) ?_
                refine AllReadyH.cons (o := _) rfl (fun K hK => ?_) ?_
                · go_simp
                  refine hK.out _ _ ?_ (fun hHeld => ?_)
                  · (try dsimp only)
                    (first | exact ⟨by simpa using q2, by simpa using j0, by simpa using j1⟩ | exact ⟨by simpa using a0, by simpa using a2, by simpa using a3⟩ | exact ⟨y0, y1, y3⟩ | exact ⟨cellk (below_alloc _ _) y0, cellk (below_alloc _ _) y1, cellk (below_alloc _ _) y3⟩ | exact ⟨x0, x1, x3⟩ | exact ⟨(World.cell?_setCell_other _ _ _ _ (by intro e; have := congrArg Addr.block e; simp at this; omega)).trans x0, (World.cell?_setCell_other _ _ _ _ (by intro e; have := congrArg Addr.block e; simp at this; omega)).trans x1, (World.cell?_setCell_other _ _ _ _ (by intro e; have := congrArg Addr.block e; simp at this; omega)).trans x3⟩)
                  clear hK K
                  (try simp only [Act.put, List.setIfInBounds_toArray, List.set_cons_zero, List.set_cons_succ])
                  refine wpAnyH_ready (rs := [17]) (by kernel_rfl) (by simp) ?_
                  refine AllReadyH.cons (o := _) rfl (fun K hK => ?_) ?_
                  · go_simp
                    refine hK.out _ _ ?_ (fun hHeld => ?_)
                    · (try dsimp only)
                      (first | exact ⟨by simpa using q2, by simpa using j0, by simpa using j1⟩ | exact ⟨by simpa using a0, by simpa using a2, by simpa using a3⟩ | exact ⟨y0, y1, y3⟩ | exact ⟨cellk (below_alloc _ _) y0, cellk (below_alloc _ _) y1, cellk (below_alloc _ _) y3⟩ | exact ⟨x0, x1, x3⟩ | exact ⟨(World.cell?_setCell_other _ _ _ _ (by intro e; have := congrArg Addr.block e; simp at this; omega)).trans x0, (World.cell?_setCell_other _ _ _ _ (by intro e; have := congrArg Addr.block e; simp at this; omega)).trans x1, (World.cell?_setCell_other _ _ _ _ (by intro e; have := congrArg Addr.block e; simp at this; omega)).trans x3⟩)
                    clear hK K
                    (try simp only [Act.put, List.setIfInBounds_toArray, List.set_cons_zero, List.set_cons_succ])
                    refine wpAnyH_ready (rs := [18]) (by kernel_rfl) (by simp) ?_
                    refine AllReadyH.cons (o := _) rfl (fun K hK => ?_) ?_
                    · (refine step_app1D (by rfl) (.tmp 41) (.tmp 57) 35 (by rfl) 113 (.agg #[.int .i64 0, .slice none 0 0]) 2 32 Try.underlying35 info_Atom (by decide) (by decide) (by rfl) (.slice xa xn xc) L.length cs (by rfl) (HC1c.out.grow (below_alloc _ _)) w3.heap.size [.int .i64 r, .slice ba bn bc] (by rfl) (by simp [Value.oneCell']) (by rfl) (heap_alloc_new w3 _) (by omega) ?_; intro g' cap' w4 hown' ko hbl; have z1 := ko.cell HXB.out (cellk (below_alloc w3 _) y4); have z2 := ko.frozen (o := 1) (Nat.lt_of_lt_of_le HXS.out (Nat.le_trans HB3.out.size (below_alloc w3 _).size)) HXB.out (frok (below_alloc w3 _) y4 (frok HB3.out kx1 kxf)); have x0 := ko.cell HN0.out (cellk (below_alloc w3 _) y0); have x1 := ko.cell HN1.out (cellk (below_alloc w3 _) y1); have x3 := ko.cell HN1.out (cellk (below_alloc w3 _) y3); have HNEW := Lib.hid (QInv.step HQI.out HC1.out HC2.out HB3.out (below_alloc w3 _) HOB.out HFB.out HDI.out hown' ko (fun b hb => (hbl b hb).imp id (fun e => by rw [e]; exact Nat.le_refl _))))
                      refine hK.out _ _ ?_ (fun hHeld => ?_)
                      · (try dsimp only)
                        (first | exact ⟨by simpa using q2, by simpa using j0, by simpa using j1⟩ | exact ⟨by simpa using a0, by simpa using a2, by simpa using a3⟩ | exact ⟨y0, y1, y3⟩ | exact ⟨cellk (below_alloc _ _) y0, cellk (below_alloc _ _) y1, cellk (below_alloc _ _) y3⟩ | exact ⟨x0, x1, x3⟩ | exact ⟨(World.cell?_setCell_other _ _ _ _ (by intro e; have := congrArg Addr.block e; simp at this; omega)).trans x0, (World.cell?_setCell_other _ _ _ _ (by intro e; have := congrArg Addr.block e; simp at this; omega)).trans x1, (World.cell?_setCell_other _ _ _ _ (by intro e; have := congrArg Addr.block e; simp at this; omega)).trans x3⟩)
                      clear hK K
                      (try simp only [Act.put, List.setIfInBounds_toArray, List.set_cons_zero, List.set_cons_succ])
                      refine wpAnyH_take (i := 19) (oi := _) (v := ?_) rfl (by kernel_rfl) (by kernel_rfl) (by kernel_rfl) (fun _ _ _ h => h) (Or.inl ⟨by rfl, ?_⟩) (by assumption) ?_
                      rotate_left
                      · (intro w hSw; (try dsimp only at hSw); go_simp <;> with_reducible rfl)
                      (try simp only [Act.put, List.setIfInBounds_toArray, List.set_cons_zero, List.set_cons_succ])
                      refine wpAnyH_ready (rs := [20]) (by kernel_rfl) (by simp) ?_
                      refine AllReadyH.cons (o := _) rfl (fun K hK => ?_) ?_
                      · go_simp
                        refine hK.out _ _ ?_ (fun hHeld => ?_)
                        · (try dsimp only)
                          (first | exact ⟨by simpa using q2, by simpa using j0, by simpa using j1⟩ | exact ⟨by simpa using a0, by simpa using a2, by simpa using a3⟩ | exact ⟨y0, y1, y3⟩ | exact ⟨cellk (below_alloc _ _) y0, cellk (below_alloc _ _) y1, cellk (below_alloc _ _) y3⟩ | exact ⟨x0, x1, x3⟩ | exact ⟨(World.cell?_setCell_other _ _ _ _ (by intro e; have := congrArg Addr.block e; simp at this; omega)).trans x0, (World.cell?_setCell_other _ _ _ _ (by intro e; have := congrArg Addr.block e; simp at this; omega)).trans x1, (World.cell?_setCell_other _ _ _ _ (by intro e; have := congrArg Addr.block e; simp at this; omega)).trans x3⟩)
                        clear hK K
                        (try simp only [Act.put, List.setIfInBounds_toArray, List.set_cons_zero, List.set_cons_succ])
                        refine wpAnyH_done (by kernel_rfl) ?_ _
                        refine NoPanic.normal ?_
                        go_wp2_with fail
                        exact ⟨⟨k + 1, by omega, by simp, _, _, by rw [HRT.out]; exact HNEW.out⟩, by simp [intOf]; omega⟩
                      exact AllReadyH.nil
                    exact AllReadyH.nil
                  exact AllReadyH.nil
                refine AllReadyH.cons (o := _) rfl (fun K hK => ?_) ?_
                · go_simp
                  refine hK.out _ _ ?_ (fun hHeld => ?_)
                  · (try dsimp only)
                    (first | exact ⟨by simpa using q2, by simpa using j0, by simpa using j1⟩ | exact ⟨by simpa using a0, by simpa using a2, by simpa using a3⟩ | exact ⟨y0, y1, y3⟩ | exact ⟨cellk (below_alloc _ _) y0, cellk (below_alloc _ _) y1, cellk (below_alloc _ _) y3⟩ | exact ⟨x0, x1, x3⟩ | exact ⟨(World.cell?_setCell_other _ _ _ _ (by intro e; have := congrArg Addr.block e; simp at this; omega)).trans x0, (World.cell?_setCell_other _ _ _ _ (by intro e; have := congrArg Addr.block e; simp at this; omega)).trans x1, (World.cell?_setCell_other _ _ _ _ (by intro e; have := congrArg Addr.block e; simp at this; omega)).trans x3⟩)
                  clear hK K
                  (try simp only [Act.put, List.setIfInBounds_toArray, List.set_cons_zero, List.set_cons_succ])
                  refine wpAnyH_ready (rs := [1]) (by kernel_rfl) (by simp) ?_
                  refine AllReadyH.cons (o := _) rfl (fun K hK => ?_) ?_
                  · go_simp
                    refine hK.out _ _ ?_ (fun hHeld => ?_)
                    · (try dsimp only)
                      (first | exact ⟨by simpa using q2, by simpa using j0, by simpa using j1⟩ | exact ⟨by simpa using a0, by simpa using a2, by simpa using a3⟩ | exact ⟨y0, y1, y3⟩ | exact ⟨cellk (below_alloc _ _) y0, cellk (below_alloc _ _) y1, cellk (below_alloc _ _) y3⟩ | exact ⟨x0, x1, x3⟩ | exact ⟨(World.cell?_setCell_other _ _ _ _ (by intro e; have := congrArg Addr.block e; simp at this; omega)).trans x0, (World.cell?_setCell_other _ _ _ _ (by intro e; have := congrArg Addr.block e; simp at this; omega)).trans x1, (World.cell?_setCell_other _ _ _ _ (by intro e; have := congrArg Addr.block e; simp at this; omega)).trans x3⟩)
                    clear hK K
                    (try simp only [Act.put, List.setIfInBounds_toArray, List.set_cons_zero, List.set_cons_succ])
                    refine wpAnyH_ready (rs := [18]) (by kernel_rfl) (by simp) ?_
                    refine AllReadyH.cons (o := _) rfl (fun K hK => ?_) ?_
                    · (refine step_app1D (by rfl) (.tmp 41) (.tmp 57) 35 (by rfl) 113 (.agg #[.int .i64 0, .slice none 0 0]) 2 32 Try.underlying35 info_Atom (by decide) (by decide) (by rfl) (.slice xa xn xc) L.length cs (by rfl) (HC1c.out.grow (below_alloc _ _)) w3.heap.size [.int .i64 r, .slice ba bn bc] (by rfl) (by simp [Value.oneCell']) (by rfl) (heap_alloc_new w3 _) (by omega) ?_; intro g' cap' w4 hown' ko hbl; have z1 := ko.cell HXB.out (cellk (below_alloc w3 _) y4); have z2 := ko.frozen (o := 1) (Nat.lt_of_lt_of_le HXS.out (Nat.le_trans HB3.out.size (below_alloc w3 _).size)) HXB.out (frok (below_alloc w3 _) y4 (frok HB3.out kx1 kxf)); have x0 := ko.cell HN0.out (cellk (below_alloc w3 _) y0); have x1 := ko.cell HN1.out (cellk (below_alloc w3 _) y1); have x3 := ko.cell HN1.out (cellk (below_alloc w3 _) y3); have HNEW := Lib.hid (QInv.step HQI.out HC1.out HC2.out HB3.out (below_alloc w3 _) HOB.out HFB.out HDI.out hown' ko (fun b hb => (hbl b hb).imp id (fun e => by rw [e]; exact Nat.le_refl _))))
                      refine hK.out _ _ ?_ (fun hHeld => ?_)
                      · (try dsimp only)
                        (first | exact ⟨by simpa using q2, by simpa using j0, by simpa using j1⟩ | exact ⟨by simpa using a0, by simpa using a2, by simpa using a3⟩ | exact ⟨y0, y1, y3⟩ | exact ⟨cellk (below_alloc _ _) y0, cellk (below_alloc _ _) y1, cellk (below_alloc _ _) y3⟩ | exact ⟨x0, x1, x3⟩ | exact ⟨(World.cell?_setCell_other _ _ _ _ (by intro e; have := congrArg Addr.block e; simp at this; omega)).trans x0, (World.cell?_setCell_other _ _ _ _ (by intro e; have := congrArg Addr.block e; simp at this; omega)).trans x1, (World.cell?_setCell_other _ _ _ _ (by intro e; have := congrArg Addr.block e; simp at this; omega)).trans x3⟩)
                      clear hK K
                      (try simp only [Act.put, List.setIfInBounds_toArray, List.set_cons_zero, List.set_cons_succ])
                      refine wpAnyH_take (i := 19) (oi := _) (v := ?_) rfl (by kernel_rfl) (by kernel_rfl) (by kernel_rfl) (fun _ _ _ h => h) (Or.inl ⟨by rfl, ?_⟩) (by assumption) ?_
                      rotate_left
                      · (intro w hSw; (try dsimp only at hSw); go_simp <;> with_reducible rfl)
                      (try simp only [Act.put, List.setIfInBounds_toArray, List.set_cons_zero, List.set_cons_succ])
                      refine wpAnyH_ready (rs := [20]) (by kernel_rfl) (by simp) ?_
                      refine AllReadyH.cons (o := _) rfl (fun K hK => ?_) ?_
                      · go_simp
                        refine hK.out _ _ ?_ (fun hHeld => ?_)
                        · (try dsimp only)
                          (first | exact ⟨by simpa using q2, by simpa using j0, by simpa using j1⟩ | exact ⟨by simpa using a0, by simpa using a2, by simpa using a3⟩ | exact ⟨y0, y1, y3⟩ | exact ⟨cellk (below_alloc _ _) y0, cellk (below_alloc _ _) y1, cellk (below_alloc _ _) y3⟩ | exact ⟨x0, x1, x3⟩ | exact ⟨(World.cell?_setCell_other _ _ _ _ (by intro e; have := congrArg Addr.block e; simp at this; omega)).trans x0, (World.cell?_setCell_other _ _ _ _ (by intro e; have := congrArg Addr.block e; simp at this; omega)).trans x1, (World.cell?_setCell_other _ _ _ _ (by intro e; have := congrArg Addr.block e; simp at this; omega)).trans x3⟩)
                        clear hK K
                        (try simp only [Act.put, List.setIfInBounds_toArray, List.set_cons_zero, List.set_cons_succ])
                        refine wpAnyH_done (by kernel_rfl) ?_ _
                        refine NoPanic.normal ?_
                        go_wp2_with fail
                        exact ⟨⟨k + 1, by omega, by simp, _, _, by rw [HRT.out]; exact HNEW.out⟩, by simp [intOf]; omega⟩
                      exact AllReadyH.nil
                    exact AllReadyH.nil
                  exact AllReadyH.nil
                exact AllReadyH.nil
              exact AllReadyH.nil
            exact AllReadyH.nil
        · obtain rfl : k = n := by omega
          have hT : d.2.take k = d.2 := List.take_of_length_le (by rw [HL.out]; exact Nat.le_refl _)
          have HBr := Lib.hid (bnext HB2.out hbq)
          have k0 := cellk hbq KK0.out
          have k1 := cellk hbq KK1.out
          have f0 := frok hbq KK0.out KF0.out
          have f1 := frok hbq KK1.out KF1.out
          have HSLr := Lib.hid (HSL2.out.below (by have := HSZ.out; omega) hbq)
          obtain ⟨h5, h6⟩ := HQI.out.done HOH.out HFH.out (by have := HSZ.out; omega) (OnlyAt.refl [w.heap.size] wr)
          rw [hT] at h6
          obtain ⟨_, _, _, e6, h6⟩ := h6
          cases e6
          have HXR : Hid (RdQuery wr (.agg #[.slice va vn vc, .slice xa xn xc]) (cut9 d i.toNat)) := ⟨_, _, _, _, _, _, rfl, h5, h6⟩
          have HSZr : Hid (w.heap.size + 3 ≤ wr.heap.size) := by have := hbq.size; have := HSZ.out; exact Lib.hid (by omega)
          clear h5 h6 hba hxs hbq
          go_wp2_with fail
          refine (HQX.out _ _ HBr.out HXR.out).mono ?_
          rintro e w5 ⟨rfl, hbb⟩
          have HSL5 := Lib.hid (HSLr.out.below (by have := HSZr.out; omega) hbb)
          have HXR5 := Lib.hid (HXR.out.below hbb)
          replace f0 := frok hbb k0 f0
          replace f1 := frok hbb k1 f1
          replace k0 := cellk hbb k0
          replace k1 := cellk hbb k1
          replace kx0 := cellk hbb kx0
          replace kx1 := cellk hbb kx1
          have qa := cellk hbb (cellk HQI.out.1.below KQ1.out)
          have qb := cellk hbb q2
          have HB5 := Lib.hid (bnext HBr.out hbb)
          have HSZ5 : Hid (w.heap.size + 3 ≤ w5.heap.size) := by have := hbb.size; have := HSZr.out; exact Lib.hid (by omega)
          clear hbb HSZr HSLr HXR
          have HSZ := HSZ5
          cases p3 with
          | false =>
            have HWBf : Hid (B = false) := HWB.out _ rfl
            have HWQf : Hid (Q = d) := HWQ.out rfl
            clear HWB HWQ HWQ2
            go_wp2_with fail
            refine (HCP.out _ HB5.out).mono ?_
            rintro e wc ⟨ra, rn, rc, ra', rn', rc', rfl, hr, hbc⟩
            replace f0 := frok hbc k0 f0
            replace f1 := frok hbc k1 f1
            replace k0 := cellk hbc k0
            replace k1 := cellk hbc k1
            have HSLc := Lib.hid (HSL5.out.below (by have := (Below.size HB5.out); have := HSZ.out; omega) hbc)
            have HBc := Lib.hid (bnext HB5.out hbc)
            have HRc := Lib.hid hr
            clear hbc hr
            go_wp2_with fail
            have hk : OnlyAt [w.heap.size + 1 + 1] wc ((wc.setCell ⟨w.heap.size + 1 + 1, 0, none⟩ (.slice ra rn rc)).setCell ⟨w.heap.size + 1 + 1, 1, none⟩ (.slice ra' rn' rc')) := (OnlyAt.setCell wc _ _ _).same (OnlyAt.setCell _ _ _ _)
            exact bodyPost_ret (v := .tuple #[.agg #[.slice ra rn rc, .slice ra' rn' rc'], .bool false]) (by simp [results, Try.results66, go_sem, k0, k1]) rfl ⟨_, _, _, _, _, _, by rw [HWBf.out], by rw [HWQf.out]; exact HRc.out.offS hk HSLc.out, OnlyAt.below HBc.out hk (fun x hx => by simp at hx; omega)⟩
          | true =>
            have HWBt : Hid (B = true) := HWB.out _ rfl
            have HWQt : Hid (Q = cut9 d i.toNat) := HWQ2.out rfl
            clear HWB HWQ HWQ2
            go_wp2_with fail
            have hk : OnlyAt [w.heap.size + 1 + 1] w5 ((w5.setCell ⟨w.heap.size + 1 + 1, 0, none⟩ (.slice va vn vc)).setCell ⟨w.heap.size + 1 + 1, 1, none⟩ (.slice xa xn xc)) := (OnlyAt.setCell w5 _ _ _).same (OnlyAt.setCell _ _ _ _)
            exact bodyPost_ret (v := .tuple #[.agg #[.slice va vn vc, .slice xa xn xc], .bool true]) (by simp [results, Try.results66, go_sem, k0, k1]) rfl ⟨_, _, _, _, _, _, by rw [HWBt.out], by rw [HWQt.out]; exact HXR5.out.offS hk HSL5.out, OnlyAt.below HB5.out hk (fun x hx => by simp at hx; omega)⟩
end Go.Proofs.Ytfojllkkbdpfkaa

/-! S9c -/
namespace Go.Proofs.Ytfojllkkbdpfkaa
open Go Go.Sort Go.RowKit
set_option linter.unusedVariables false

theorem woQ_sz (s : List Int) (q : QueryD) (i : Int) : sizeQuery (woQ s q i) ≤ sizeQuery q := by
  have h1 := woQ_size s q i
  have h2 : (woQ s q i).1 = q.1 := by unfold woQ; split <;> rfl
  unfold sizeQuery; rw [h2]; omega
theorem woQ_len (s : List Int) (q : QueryD) (i : Int) : (woQ s q i).2.length ≤ q.2.length := by
  unfold woQ; split
  · exact (cutA_sub _ _).length_le
  · exact Nat.le_refl _
theorem red_len {s : List Int} {q : QueryD} {i : Nat} (h : redB s q (i : Int) = true) : (woQ s q (i : Int)).2.length + 1 = q.2.length := by
  obtain ⟨h1, h2, h3, _⟩ := redB_in h
  rw [h3]
  exact cutA_len h2
theorem red_min {s : List Int} {q : QueryD} {i : Nat} (h : redB s q (i : Int) = true) (hf : ∀ j < i, redB s q (j : Int) = false) : minQ s (woQ s q (i : Int)) = minQ s q := by
  obtain ⟨h1, h2, h3, _⟩ := redB_in h
  rw [h3, Int.toNat_natCast]
  rw [Int.toNat_natCast] at h2
  exact (minQ_step (frN_some h2 hf h)).symm
theorem minB_some {s : List Int} {q : QueryD} {i : Nat} (hi : i < q.2.length) (h : redB s q (i : Int) = true) : minB s q = false := by
  unfold minB
  cases hf : frN s q with
  | some k => simp
  | none =>
    unfold frN at hf
    rw [List.find?_eq_none] at hf
    have := hf i (List.mem_range.2 hi)
    simp [h] at this
theorem minB_none {s : List Int} {q : QueryD} (h : ∀ j < q.2.length, redB s q (j : Int) = false) : minB s q = fineB s q 4 := by
  unfold minB; rw [frN_none h]; simp
theorem SlB.set {w : World} {B o : Nat} {u : Value} {a : Option Addr} {n c : Nat} (h : SlB w B) (hc : w.cell? ⟨B, o, none⟩ = some u) : SlB (w.setCell ⟨B, o, none⟩ (.slice a n c)) B := by
  intro o' x hx
  by_cases he : o' = o
  · subst he
    rw [World.cell?_setCell_same _ _ _ hc] at hx
    cases hx; exact ⟨_, _, _, rfl⟩
  · rw [World.cell?_setCell_other _ _ _ _ (by intro e; cases e; exact he rfl)] at hx
    exact h _ _ hx

set_option maxHeartbeats 4000000 in
theorem sRedundant_any (w : World) (vs v : Value) (s : List Int) (d : QueryD) (i : Int) (hvs : RdSchema w vs s) (h : RdQuery w v d) (hz : sizeQuery d ≤ 1048576) :
    Calls Try.prog 28 #[vs, v, .int .i64 i] w (GaveBool w (redB s d i)) := by
  have hz1 : d.1.length ≤ 1048576 := by unfold sizeQuery at hz; omega
  have hz2 : sizeAtomS d.2 ≤ 1048576 := by unfold sizeQuery at hz; omega
  have HWO := Lib.hid (fun W (hb : Below w.heap.size w W) => sWithout_any W vs v s d i (RdSchema.below hvs hb) (RdQuery.below h hb) hz1 hz2)
  have HEQ := Lib.hid (fun W x (hb : Below w.heap.size w W) (hx : RdQuery W x (woQ s d i)) => sEquivalent_any W vs x v s (woQ s d i) d (RdSchema.below hvs hb) hx (RdQuery.below h hb) (Nat.le_trans (woQ_size s d i) hz2) hz2)
  obtain ⟨B, hB⟩ : ∃ B, B = redB s d i := ⟨_, rfl⟩
  rw [← hB]
  unfold redB at hB
  obtain ⟨p, hp⟩ : ∃ p, woB s d i = p := ⟨_, rfl⟩
  obtain ⟨q, hq⟩ : ∃ q, (conB8 s (woQ s d i) d && conB8 s d (woQ s d i)) = q := ⟨_, rfl⟩
  rw [hp, hq] at hB
  rw [hp] at HWO
  rw [hq] at HEQ
  have HBE := Lib.hid hB
  clear hB hp hq
  obtain ⟨sa, sn, sc, rfl, hs⟩ := hvs
  obtain ⟨a0, n0, c0, a, n, c, rfl, hi, ha⟩ := h
  have hb0 : ∀ a b, Below w.heap.size w ((w.alloc a).alloc b) := fun a b => ((Below.refl _ _).alloc (Nat.le_refl _) _).alloc (by simp) _
  have HB0 := Lib.hid hb0
  clear hs hi ha hz hz1 hz2 hb0
  go_enter Try.func28, Try.ntmps28
  go_wp2_with fail
  obtain ⟨W, hW⟩ : ∃ W, W = (w.alloc (.cells #[.slice sa sn sc] 33)).alloc (.cells #[.slice a0 n0 c0, .slice a n c] 37) := ⟨_, rfl⟩
  have HBW : Hid (Below w.heap.size w W) := by rw [hW]; exact HB0.out _ _
  have q0 : W.cell? ⟨w.heap.size, 0, none⟩ = some (.slice sa sn sc) := by rw [hW]; simp
  have q1 : W.cell? ⟨w.heap.size + 1, 0, none⟩ = some (.slice a0 n0 c0) := by rw [hW]; simp
  have q2 : W.cell? ⟨w.heap.size + 1, 1, none⟩ = some (.slice a n c) := by rw [hW]; simp
  rw [← hW]
  clear hW
  refine (HWO.out _ HBW.out).mono ?_
  rintro e w1 ⟨xa, xn, xc, ya, yn, yc, rfl, hx, hbb⟩
  have hal := below_alloc w1 (.cells #[.slice xa xn xc, .slice ya yn yc] 37)
  replace q0 := cellk (bnext hbb hal) q0
  replace q1 := cellk (bnext hbb hal) q1
  replace q2 := cellk (bnext hbb hal) q2
  have HB1 := Lib.hid (bnext (bnext HBW.out hbb) hal)
  have HX := Lib.hid (hx.below hal)
  clear hbb hx hal
  cases p with
  | false =>
    go_wp2_with fail
    go_ret
    exact ⟨ret_b HBE.out.symm, HB1.out⟩
  | true =>
    go_wp2_with fail
    refine (HEQ.out _ _ HB1.out HX.out).mono ?_
    rintro e w2 ⟨rfl, hbb⟩
    have HB2 := Lib.hid (bnext HB1.out hbb)
    clear hbb
    go_wp2_with fail
    go_ret
    exact ⟨ret_b HBE.out.symm, HB2.out⟩

set_option maxHeartbeats 4000000 in
theorem sIsMinimal_any (w : World) (vs v : Value) (s : List Int) (d : QueryD) (hvs : RdSchema w vs s) (h : RdQuery w v d) (hz : sizeQuery d ≤ 1048576) :
    Calls Try.prog 33 #[vs, v] w (GaveBool w (minB s d)) := by
  have hz2 : sizeAtomS d.2 ≤ 1048576 := by unfold sizeQuery at hz; omega
  have HQ := Lib.hid (fun W (hb : Below w.heap.size w W) => sIsQuery_any W vs v s d (RdSchema.below hvs hb) (RdQuery.below h hb) hz2)
  have HR := Lib.hid (fun W (i : Int) (hb : Below w.heap.size w W) => sRedundant_any W vs v s d i (RdSchema.below hvs hb) (RdQuery.below h hb) hz)
  obtain ⟨sa, sn, sc, rfl, hs⟩ := hvs
  obtain ⟨a0, n0, c0, a, n, c, rfl, hi, ha⟩ := h
  obtain ⟨hl, hn, hm, hcell⟩ := ha.at
  unfold maxLen at hm
  have HL := Lib.hid hl
  have hln : n ≤ 1048576 := by unfold sizeAtomS at hz2; omega
  have hb0 : ∀ a b, Below w.heap.size w ((w.alloc a).alloc b) := fun a b => ((Below.refl _ _).alloc (Nat.le_refl _) _).alloc (by simp) _
  have HB0 := Lib.hid hb0
  clear hs hi ha hcell hl hb0 hz hz2
  go_enter Try.func33, Try.ntmps33
  go_wp2_with fail
  obtain ⟨W, hW⟩ : ∃ W, W = (w.alloc (.cells #[.slice sa sn sc] 33)).alloc (.cells #[.slice a0 n0 c0, .slice a n c] 37) := ⟨_, rfl⟩
  have HBW : Hid (Below w.heap.size w W) := by rw [hW]; exact HB0.out _ _
  have Q0 : Hid (W.cell? ⟨w.heap.size, 0, none⟩ = some (.slice sa sn sc)) := by rw [hW]; exact Lib.hid (by simp)
  have Q1 : Hid (W.cell? ⟨w.heap.size + 1, 0, none⟩ = some (.slice a0 n0 c0)) := by rw [hW]; exact Lib.hid (by simp)
  have Q2 : Hid (W.cell? ⟨w.heap.size + 1, 1, none⟩ = some (.slice a n c)) := by rw [hW]; exact Lib.hid (by simp)
  rw [← hW]
  clear hW
  go_loopw [5] (fun iv wr => ∃ i : Nat, i ≤ n ∧ iv = .int .i64 i ∧ Hid (∀ j < i, redB s d (j : Int) = false) ∧ Hid (Below W.heap.size W wr)) (fun iv _ => n - (intOf iv).toNat)
  case atStart => exact ⟨0, by omega, rfl, Lib.hid (fun j hj => by omega), Lib.hid (Below.refl _ _)⟩
  case round =>
    obtain ⟨i, hi, rfl, HF, HB⟩ := hrel
    have q0 := cellk HB.out Q0.out
    have q1 := cellk HB.out Q1.out
    have q2 := cellk HB.out Q2.out
    have HBr := Lib.hid (bnext HBW.out HB.out)
    by_cases hlt : i < n
    · have hr := HR.out wr (i : Int) HBr.out
      obtain ⟨p, hp⟩ : ∃ p, redB s d (i : Int) = p := ⟨_, rfl⟩
      rw [hp] at hr
      have HP := Lib.hid hp
      have HRC := Lib.hid hr
      clear hp hr
      go_wp2_with fail
      refine HRC.out.mono ?_
      rintro e w1 ⟨rfl, hbb⟩
      have HB1 := Lib.hid (bnext HB.out hbb)
      clear hbb q0 q1 q2
      cases p with
      | true =>
        have HN : Hid (minB s d = false) := minB_some (by rw [HL.out]; exact hlt) HP.out
        go_wp2_with fail
        go_ret
        exact ⟨ret_b HN.out.symm, bnext HBW.out HB1.out⟩
      | false =>
        go_wp2_with fail
        exact ⟨⟨i + 1, by omega, by simp, Lib.hid (fun j hj => by
          by_cases h : j < i
          · exact HF.out j h
          · obtain rfl : j = i := by omega
            exact HP.out), HB1⟩, by simp [intOf]; omega⟩
    · obtain rfl : i = n := by omega
      have HN : Hid (minB s d = fineB s d 4) := minB_none (by rw [HL.out]; exact HF.out)
      have HQC := Lib.hid (HQ.out wr HBr.out)
      go_wp2_with fail
      refine HQC.out.mono ?_
      rintro e w1 ⟨rfl, hbb⟩
      have HB1 := Lib.hid (bnext HBr.out hbb)
      clear hbb
      go_wp2_with fail
      go_ret
      exact ⟨ret_b HN.out.symm, HB1.out⟩

/-- The query under way in the box B: what is minimal of it is what is minimal of d. -/
def MinS (W : World) (s : List Int) (d q : QueryD) (B : Nat) (wr : World) (x y : Value) : Prop :=
  wr.cell? ⟨B, 0, none⟩ = some x ∧ wr.cell? ⟨B, 1, none⟩ = some y ∧ wr.frozen? ⟨B, 0, none⟩ = false ∧ wr.frozen? ⟨B, 1, none⟩ = false ∧ RdQuery wr (.agg #[x, y]) q ∧ SlB wr B ∧ Below W.heap.size W wr ∧ B < wr.heap.size ∧ minQ s q = minQ s d ∧ sizeQuery q ≤ sizeQuery d ∧ q.2.length ≤ d.2.length
def lenAt9 (w : World) (B : Nat) : Nat := match w.cell? ⟨B, 1, none⟩ with | some (.slice _ n _) => n | _ => 0
theorem lenAt9_of {w : World} {B : Nat} {a : Option Addr} {n c : Nat} (h : w.cell? ⟨B, 1, none⟩ = some (.slice a n c)) : lenAt9 w B = n := by unfold lenAt9; rw [h]
theorem MinS.below {W : World} {s : List Int} {d q : QueryD} {B : Nat} {wr w' : World} {x y : Value} (h : MinS W s d q B wr x y) (hb : Below wr.heap.size wr w') : MinS W s d q B w' x y := by
  obtain ⟨h1, h2, h3, h4, h5, h6, h7, h8, h9⟩ := h
  exact ⟨cellk hb h1, cellk hb h2, frok hb h1 h3, frok hb h2 h4, h5.below hb, h6.below h8 hb, bnext h7 hb, Nat.lt_of_lt_of_le h8 hb.size, h9⟩
/-- Another query laid into the box. -/
theorem MinS.lay {W : World} {s : List Int} {d q q' : QueryD} {B : Nat} {wr : World} {x y : Value} {a a' : Option Addr} {n c n' c' : Nat} (h : MinS W s d q B wr x y) (hB : W.heap.size ≤ B) (hr : RdQuery wr (.agg #[.slice a n c, .slice a' n' c']) q') (hm : minQ s q' = minQ s d) (hz : sizeQuery q' ≤ sizeQuery d) (hl : q'.2.length ≤ d.2.length) :
    MinS W s d q' B ((wr.setCell ⟨B, 0, none⟩ (.slice a n c)).setCell ⟨B, 1, none⟩ (.slice a' n' c')) (.slice a n c) (.slice a' n' c') := by
  obtain ⟨h1, h2, h3, h4, h5, h6, h7, h8, h9⟩ := h
  have hk : OnlyAt [B] wr ((wr.setCell ⟨B, 0, none⟩ (.slice a n c)).setCell ⟨B, 1, none⟩ (.slice a' n' c')) := (OnlyAt.setCell wr _ _ _).same (OnlyAt.setCell _ _ _ _)
  have e1 : (wr.setCell ⟨B, 0, none⟩ (.slice a n c)).cell? ⟨B, 0, none⟩ = some (.slice a n c) := World.cell?_setCell_same _ _ _ h1
  have e2 : (wr.setCell ⟨B, 0, none⟩ (.slice a n c)).cell? ⟨B, 1, none⟩ = some y := by rw [World.cell?_setCell_other _ _ _ _ (by intro e; cases e)]; exact h2
  refine ⟨?_, World.cell?_setCell_same _ _ _ e2, by simpa using h3, by simpa using h4, hr.offS hk h6, (h6.set h1).set e2, OnlyAt.below h7 hk (fun b hb => by simp at hb; omega), Nat.lt_of_lt_of_le h8 hk.size, hm, hz, hl⟩
  rw [World.cell?_setCell_other _ _ _ _ (by intro e; cases e)]; exact e1

set_option maxRecDepth 100000 in
set_option maxHeartbeats 8000000 in
theorem sMinimize_any (w : World) (vs v : Value) (s : List Int) (d : QueryD) (hvs : RdSchema w vs s) (h : RdQuery w v d) (hz : sizeQuery d ≤ 1048576) :
    Calls Try.prog 30 #[vs, v] w (GaveQ w (minQ s d)) := by
  have hz1 : d.1.length ≤ 1048576 := by unfold sizeQuery at hz; omega
  have hz2 : sizeAtomS d.2 ≤ 1048576 := by unfold sizeQuery at hz; omega
  have HCP := Lib.hid (fun W (hb : Below w.heap.size w W) => sCopy_any W v d (RdQuery.below h hb) hz1 hz2)
  have HQ := Lib.hid (fun W x q (hb : Below w.heap.size w W) (hx : RdQuery W x q) (hq : sizeQuery q ≤ sizeQuery d) => sIsQuery_any W vs x s q (RdSchema.below hvs hb) hx (by unfold sizeQuery at hq hz; omega))
  have HR := Lib.hid (fun W x q (i : Int) (hb : Below w.heap.size w W) (hx : RdQuery W x q) (hq : sizeQuery q ≤ sizeQuery d) => sRedundant_any W vs x s q i (RdSchema.below hvs hb) hx (Nat.le_trans hq hz))
  have HWO := Lib.hid (fun W x q (i : Int) (hb : Below w.heap.size w W) (hx : RdQuery W x q) (hq : sizeQuery q ≤ sizeQuery d) => sWithout_any W vs x s q i (RdSchema.below hvs hb) hx (by unfold sizeQuery at hq hz; omega) (by unfold sizeQuery at hq hz; omega))
  obtain ⟨n0, hn0⟩ : ∃ n0, n0 = d.2.length := ⟨_, rfl⟩
  have hn0z : n0 ≤ 1048576 := by unfold sizeAtomS at hz2; omega
  have HN0 := Lib.hid hn0
  obtain ⟨sa, sn, sc, rfl, hs⟩ := hvs
  obtain ⟨a0, h0, c0, a, n, c, rfl, hi, ha⟩ := h
  have hb0 : ∀ a b c, Below w.heap.size w (((w.alloc a).alloc b).alloc c) := fun a b c => (((Below.refl _ _).alloc (Nat.le_refl _) _).alloc (by simp) _).alloc (by simp; omega) _
  have HB0 := Lib.hid hb0
  clear hs hi ha hb0 hz hz1 hz2 hn0
  go_enter Try.func30, Try.ntmps30
  go_wp2_with fail
  obtain ⟨W, hW⟩ : ∃ W, W = ((w.alloc (.cells #[.slice sa sn sc] 33)).alloc (.cells #[.slice a0 h0 c0, .slice a n c] 37)).alloc (.cells #[.slice none 0 0, .slice none 0 0] 37) := ⟨_, rfl⟩
  have HBW : Hid (Below w.heap.size w W) := by rw [hW]; exact HB0.out _ _ _
  have q0 : W.cell? ⟨w.heap.size, 0, none⟩ = some (.slice sa sn sc) := by rw [hW]; exact box1 w _ _ _ _ 0 _ rfl
  have k0 : W.cell? ⟨w.heap.size + 1 + 1, 0, none⟩ = some (.slice none 0 0) := by rw [hW]; exact box3 w _ _ _ _ 0 _ rfl
  have k1 : W.cell? ⟨w.heap.size + 1 + 1, 1, none⟩ = some (.slice none 0 0) := by rw [hW]; exact box3 w _ _ _ _ 1 _ rfl
  have f0 : W.frozen? ⟨w.heap.size + 1 + 1, 0, none⟩ = false := by rw [hW]; exact frz3 w _ _ _ _ 0
  have f1 : W.frozen? ⟨w.heap.size + 1 + 1, 1, none⟩ = false := by rw [hW]; exact frz3 w _ _ _ _ 1
  have hsl : SlB W (w.heap.size + 1 + 1) := by
    rw [hW]
    have := SlB.new ((w.alloc (.cells #[.slice sa sn sc] 33)).alloc (.cells #[.slice a0 h0 c0, .slice a n c] 37)) none none 0 0 0 0 37
    simpa using this
  have hsz : W.heap.size = w.heap.size + 3 := by rw [hW]; simp
  rw [← hW]
  clear hW
  refine (HCP.out _ HBW.out).mono ?_
  rintro e W1 ⟨ra, rn, rc, ra', rn', rc', rfl, hr, hbb⟩
  have HSR := Lib.hid (hsl.below (by omega) hbb)
  replace f0 := frok hbb k0 f0
  replace f1 := frok hbb k1 f1
  replace q0 := cellk hbb q0
  replace k0 := cellk hbb k0
  replace k1 := cellk hbb k1
  have HB1 := Lib.hid (bnext HBW.out hbb)
  have HSZ : Hid (w.heap.size + 3 ≤ W1.heap.size) := by have := hbb.size; exact Lib.hid (by omega)
  have HR1 := Lib.hid hr
  clear hbb hr hsl hsz
  go_wp2_with fail
  obtain ⟨W2, hW⟩ : ∃ W2, W2 = W1.alloc (.cells #[.slice ra rn rc, .slice ra' rn' rc'] 37) := ⟨_, rfl⟩
  have HM0 : Hid (MinS W1 s d d W1.heap.size W2 (.slice ra rn rc) (.slice ra' rn' rc')) := by
    rw [hW]
    exact Lib.hid ⟨by simp, by simp, by simp, by simp, HR1.out.below (below_alloc _ _), SlB.new _ _ _ _ _ _ _ _, below_alloc _ _, by simp, rfl, Nat.le_refl _, Nat.le_refl _⟩
  rw [← hW]
  obtain ⟨B, hB⟩ : ∃ B, B = W1.heap.size := ⟨_, rfl⟩
  have HBB := Lib.hid hB
  rw [← hB] at HM0 ⊢
  have K0 := Lib.hid k0
  have K1 := Lib.hid k1
  have F0 := Lib.hid f0
  have F1 := Lib.hid f1
  have Q0 := Lib.hid q0
  clear hW hB k0 k1 f0 f1 q0
  go_loopw [6] (fun iv wr => ∃ (i : Nat) (q : QueryD) (xa : Option Addr) (xn xc : Nat) (ya : Option Addr) (yn yc : Nat), i ≤ yn ∧ iv = .int .i64 i ∧ Hid (MinS W1 s d q B wr (.slice xa xn xc) (.slice ya yn yc)) ∧ Hid (∀ j < i, redB s q (j : Int) = false)) (fun iv wr => lenAt9 wr B * (n0 + 1) + (lenAt9 wr B - (intOf iv).toNat))
  case atStart => exact ⟨0, d, _, _, _, _, _, _, by omega, rfl, HM0, Lib.hid (fun j hj => by omega)⟩
  case round =>
    obtain ⟨i, q, xa, xn, xc, ya, yn, yc, hi, rfl, HM, HF⟩ := hrel
    obtain ⟨x0, x1, g0, g1, hx, hxs, hbw, hBl, hms, hqz, hql⟩ := HM.out
    have hyl : q.2.length = yn := by
      obtain ⟨_, _, _, _, _, _, e, _, hr⟩ := hx
      cases e
      exact hr.at.1
    have HYL := Lib.hid hyl
    have HXN := Lib.hid hx
    have HMS := Lib.hid hms
    have HQZ := Lib.hid hqz
    have hBsz : w.heap.size + 3 ≤ B := by have := HSZ.out; have := HBB.out; omega
    have HBN := Lib.hid (bnext HB1.out hbw)
    have k0 := cellk hbw K0.out
    have k1 := cellk hbw K1.out
    have f0 := frok hbw K0.out F0.out
    have f1 := frok hbw K1.out F1.out
    have q0 := cellk hbw Q0.out
    have HSR := Lib.hid (HSR.out.below (by have := HSZ.out; omega) hbw)
    have hyz : yn ≤ n0 := by have := HN0.out; omega
    have HLA := Lib.hid (lenAt9_of x1)
    clear hx hms hqz hql hyl hxs
    by_cases hlt : i < yn
    · have hqc := HQ.out wr _ q HBN.out HXN.out HQZ.out
      obtain ⟨pf, hpf⟩ : ∃ p, fineB s q 4 = p := ⟨_, rfl⟩
      rw [hpf] at hqc
      have HPF := Lib.hid hpf
      have HQC := Lib.hid hqc
      clear hqc hpf hbw
      go_wp2_with fail
      refine HQC.out.mono ?_
      rintro e w4 ⟨rfl, hbb⟩
      replace HM := Lib.hid (HM.out.below hbb)
      replace x0 := cellk hbb x0
      replace x1 := cellk hbb x1
      replace f0 := frok hbb k0 f0
      replace f1 := frok hbb k1 f1
      replace k0 := cellk hbb k0
      replace k1 := cellk hbb k1
      replace q0 := cellk hbb q0
      replace HXN := Lib.hid (HXN.out.below hbb)
      replace HBN := Lib.hid (bnext HBN.out hbb)
      replace HSR := Lib.hid (HSR.out.below (by omega) hbb)
      have hB4 := hbb.size
      clear hbb g0 g1
      cases pf with
      | false =>
        have HEND : Hid (frN s q = none) := frN_none (fun j _ => redB_fine HPF.out _)
        have HRES : Hid (minQ s d = q) := by rw [← HMS.out]; exact Lib.hid (minQ_end (by first | exact HEND.out))
        go_wp2_with fail
        have hk : OnlyAt [w.heap.size + 1 + 1] w4 ((w4.setCell ⟨w.heap.size + 1 + 1, 0, none⟩ (.slice xa xn xc)).setCell ⟨w.heap.size + 1 + 1, 1, none⟩ (.slice ya yn yc)) := (OnlyAt.setCell w4 _ _ _).same (OnlyAt.setCell _ _ _ _)
        exact bodyPost_ret (v := .agg #[.slice xa xn xc, .slice ya yn yc]) (by simp [results, Try.results30, go_sem, k0, k1]) rfl ⟨_, _, _, _, _, _, rfl, by rw [HRES.out]; exact HXN.out.offS hk HSR.out, OnlyAt.below HBN.out hk (fun x hx => by simp at hx; omega)⟩
      | true =>
        have hrc := HR.out w4 _ q (i : Int) HBN.out HXN.out HQZ.out
        obtain ⟨pr, hpr⟩ : ∃ p, redB s q (i : Int) = p := ⟨_, rfl⟩
        rw [hpr] at hrc
        have HPR := Lib.hid hpr
        have HRC := Lib.hid hrc
        clear hrc hpr
        go_wp2_with fail
        refine HRC.out.mono ?_
        rintro e w5 ⟨rfl, hbb⟩
        replace HM := Lib.hid (HM.out.below hbb)
        replace x0 := cellk hbb x0
        replace x1 := cellk hbb x1
        replace k0 := cellk hbb k0
        replace k1 := cellk hbb k1
        replace q0 := cellk hbb q0
        replace HXN := Lib.hid (HXN.out.below hbb)
        replace HBN := Lib.hid (bnext HBN.out hbb)
        have hB5 := hbb.size
        clear hbb f0 f1
        cases pr with
        | false =>
          have HLA5 := Lib.hid (lenAt9_of x1)
          go_wp2_with fail
          exact ⟨⟨i + 1, q, _, _, _, _, _, _, by omega, by simp, HM, Lib.hid (fun j hj => by
            by_cases h : j < i
            · exact HF.out j h
            · obtain rfl : j = i := by omega
              exact HPR.out)⟩, by rw [HLA.out, HLA5.out]; simp [intOf]; omega⟩
        | true =>
          have HWC := Lib.hid (HWO.out w5 _ q (i : Int) HBN.out HXN.out HQZ.out)
          go_wp2_with fail
          refine HWC.out.mono ?_
          rintro e w6 ⟨za, zn, zc, ua, un, uc, rfl, hzr, hbb⟩
          have hal := bnext hbb (below_alloc w6 (.cells #[.slice za zn zc, .slice ua un uc] 37))
          replace HM := Lib.hid (HM.out.below hal)
          have y0 := HM.out.1
          have y1 := HM.out.2.1
          have y2 := HM.out.2.2.1
          have y3 := HM.out.2.2.2.1
          have hne : ¬ w6.heap.size = B := by have := hbb.size; have := HM.out.2.2.2.2.2.2.2.1; omega
          have hul : (woQ s q (i : Int)).2.length = un := by
            obtain ⟨_, _, _, _, _, _, e, _, hr⟩ := hzr
            cases e
            exact hr.at.1
          have HNEW := Lib.hid (HM.out.lay (by rw [HBB.out]; exact Nat.le_refl _) (hzr.below (below_alloc w6 (.cells #[.slice za zn zc, .slice ua un uc] 37))) ((red_min HPR.out HF.out).trans HMS.out) (Nat.le_trans (woQ_sz s q i) HQZ.out) (Nat.le_trans (woQ_len s q i) (by have := HYL.out; have := HN0.out; omega)))
          have hun : un + 1 = yn := by rw [← hul, red_len HPR.out]; exact HYL.out
          clear hal hzr hbb hul x0 x1 k0 k1 q0
          go_wp2_with fail
          have HLA6 := Lib.hid (lenAt9_of HNEW.out.2.1)
          refine ⟨⟨0, _, _, _, _, _, _, _, by omega, rfl, HNEW, Lib.hid (fun j hj => by omega)⟩, ?_⟩
          rw [HLA.out, HLA6.out]
          have : (un + 1) * (n0 + 1) = un * (n0 + 1) + (n0 + 1) := Nat.succ_mul _ _
          rw [← hun]
          simp [intOf]; omega
    · obtain rfl : i = yn := by omega
      have HEND : Hid (frN s q = none) := frN_none (by rw [HYL.out]; exact HF.out)
      clear hbw g0 g1
      have HRES : Hid (minQ s d = q) := by rw [← HMS.out]; exact Lib.hid (minQ_end (by first | exact HEND.out))
      go_wp2_with fail
      have hk : OnlyAt [w.heap.size + 1 + 1] wr ((wr.setCell ⟨w.heap.size + 1 + 1, 0, none⟩ (.slice xa xn xc)).setCell ⟨w.heap.size + 1 + 1, 1, none⟩ (.slice ya i yc)) := (OnlyAt.setCell wr _ _ _).same (OnlyAt.setCell _ _ _ _)
      exact bodyPost_ret (v := .agg #[.slice xa xn xc, .slice ya i yc]) (by simp [results, Try.results30, go_sem, k0, k1]) rfl ⟨_, _, _, _, _, _, rfl, by rw [HRES.out]; exact HXN.out.offS hk HSR.out, OnlyAt.below HBN.out hk (fun x hx => by simp at hx; omega)⟩
end Go.Proofs.Ytfojllkkbdpfkaa

/-! S9d -/
namespace Go.Proofs.Ytfojllkkbdpfkaa
open Go Go.Sort Go.RowKit
set_option linter.unusedVariables false
set_option linter.unusedSimpArgs false

theorem mem_take9 {l : List AtomD} {k : Nat} {x e : AtomD} (h : l[k]? = some x) : decide (e ∈ l.take (k + 1)) = (decide (e ∈ l.take k) || decide (x = e)) := by
  obtain ⟨hk, rfl⟩ := List.getElem?_eq_some_iff.1 h
  rw [List.take_succ_eq_append_getElem hk]
  generalize l.take k = A
  generalize l[k] = y
  by_cases h1 : e ∈ A
  · simp [h1]
  · by_cases h2 : y = e
    · simp [h1, h2]
    · have h3 : ¬ e = y := fun h => h2 h.symm
      simp [h1, h2, h3]
theorem QInv.below9 {E : TypeId} {W w w' : World} {vh xv : Value} {l : List AtomD} {bss : List (List Nat)} (h : QInv E W w vh l xv bss) (hb : Below w.heap.size w w') : QInv E W w' vh l xv bss := by
  obtain ⟨⟨cs, h1, h2⟩, h3, h4, h5, h6, h7, h8⟩ := h
  exact ⟨⟨cs, h1.grow hb, h2.grow hb⟩, cellk hb h3, cellk hb h4, frok hb h3 h5, h6, fun b hb' => ⟨(h7 b hb').1, Nat.lt_of_lt_of_le (h7 b hb').2 hb.size⟩, Nat.lt_of_lt_of_le h8 hb.size⟩
theorem eq9 (x e : AtomD) : decide (x.1 = e.1 ∧ x.2 = e.2) = decide (x = e) := by
  obtain ⟨a, b⟩ := x
  obtain ⟨c, d⟩ := e
  simp
end Go.Proofs.Ytfojllkkbdpfkaa
