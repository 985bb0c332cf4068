/- Contracts of chapter 9's spec: l4Copy, WithoutAtom. -/
import Derived.Test.YtgnlglfppeepeaaM9
import Derived.Test.YtgnlglfppeepeaaSrename3
import Derived.Test.YtgnlglfppeepeaaAppInts
import Derived.Test.YtgnlglfppeepeaaBox3
import Derived.Deep.RegionLaw
namespace Go.Proofs.Ytgnlglfppeepeaa
open Go Go.Sort Go.RowKit
set_option linter.unusedVariables false

/-- A block of which every cell is a slice: no number and no atom lies in it. -/
def SlB (w : World) (B : Nat) : Prop := ∀ o x, w.cell? ⟨B, o, none⟩ = some x → ∃ a n c, x = .slice a n c
theorem SlB.below {w w' : World} {B : Nat} (h : SlB w B) (hlt : B < w.heap.size) (hb : Below w.heap.size w w') : SlB w' B := fun o x hx => h o x (by rw [← hb.cell (p := ⟨B, o, none⟩) hlt]; exact hx)
theorem SlB.new (w : World) (a a' : Option Addr) (n c n' c' : Nat) (T : TypeId) : SlB (w.alloc (.cells #[.slice a n c, .slice a' n' c'] T)) w.heap.size := by
  intro o x hx
  unfold World.cell? at hx
  rw [heap_alloc_new w] at hx
  match o, hx with
  | 0, hx => simp at hx; exact ⟨_, _, _, hx.symm⟩
  | 1, hx => simp at hx; exact ⟨_, _, _, hx.symm⟩
  | k + 2, hx => simp at hx
theorem Ints.offS {w w' : World} {v : Value} {l : List Int} {B : Nat} (h : Ints w v l) (ko : OnlyAt [B] w w') (hB : SlB w B) : Ints w' v l := by
  refine h.onlyAt ko fun b off n c hv hn hb => ?_
  obtain ⟨a, n', cap, e, hl, hn', hm, hc⟩ := h.cases
  rw [hv] at e; cases e
  obtain ⟨b2, off2, e2, hlt, hc⟩ := hc hn
  cases e2
  have hbB : b = B := by simpa using hb
  subst hbB
  obtain ⟨_, _, _, e3⟩ := hB _ _ (hc 0 hn)
  cases e3
theorem RdQuery.offS {w w' : World} {v : Value} {d : QueryD} {B : Nat} (h : RdQuery w v d) (ko : OnlyAt [B] w w') (hB : SlB w B) : RdQuery w' v d := by
  obtain ⟨a, n, c, a', n', c', rfl, hi, ha⟩ := h
  refine ⟨a, n, c, a', n', c', rfl, hi.offS ko hB, ?_⟩
  obtain ⟨a2, n2, cap, e, hl, hn', hm, hc⟩ := ha
  cases e
  refine ⟨_, _, _, rfl, hl, hn', hm, fun h0 => ?_⟩
  obtain ⟨b, off, rfl, hlt, hc⟩ := hc h0
  refine ⟨b, off, rfl, Nat.lt_of_lt_of_le hlt ko.size, fun j hj => ?_⟩
  have hne : b ∉ [B] := by
    intro hb
    have hbB : b = B := by simpa using hb
    subst hbB
    obtain ⟨cs, hcs, hcl, _, _, _, rfl, _⟩ := hc 0 (by omega)
    obtain ⟨_, _, _, e3⟩ := hB _ _ ((hcl 0 (by omega)).trans (by rfl))
    cases e3
  obtain ⟨cs, h1, h2, ea, en, ec, rfl, hi3, hint⟩ := hc j hj
  exact ⟨_, h1, fun i hi => by rw [← h2 i hi]; exact World.cell?_of_block (ko.block b hlt hne), ea, en, ec, rfl, hi3, hint.offS ko hB⟩
theorem Ints.lit0 (w : World) (a : Option Addr) : Ints w (.slice a 0 0) [] := ⟨fun x h => by simp at h, .inl ⟨a, 0, rfl, Nat.zero_le _, rfl⟩⟩
theorem SlB.newAt {w W : World} {B : Nat} {a a' : Option Addr} {n c n' c' : Nat} {T : TypeId} (h : W.heap[B]? = some (.cells #[.slice a n c, .slice a' n' c'] T)) : SlB W B := by
  intro o x hx
  unfold World.cell? at hx
  rw [h] at hx
  match o, hx with
  | 0, hx => simp at hx; exact ⟨_, _, _, hx.symm⟩
  | 1, hx => simp at hx; exact ⟨_, _, _, hx.symm⟩
  | k + 2, hx => simp at hx

theorem newFrz (w : World) (cs : Array Value) (T : TypeId) (i : Nat) : (w.alloc (.cells cs T)).frozen? ⟨w.heap.size, i, none⟩ = false := by simp
theorem frz2 (w : World) (o1 : Obj) (cs : Array Value) (T : TypeId) (o3 : Obj) (i : Nat) (v : Value) (h : cs[i]? = some v) : (((w.alloc o1).alloc (.cells cs T)).alloc o3).frozen? ⟨w.heap.size + 1, i, none⟩ = false := by
  have e : (w.alloc o1).heap.size = w.heap.size + 1 := by simp
  have h1 := newBox (w.alloc o1) cs T i v h
  have h2 := newFrz (w.alloc o1) cs T i
  rw [e] at h1 h2
  exact frok (below_alloc _ _) h1 h2
theorem frz3 (w : World) (o1 o2 : Obj) (cs : Array Value) (T : TypeId) (i : Nat) : (((w.alloc o1).alloc o2).alloc (.cells cs T)).frozen? ⟨w.heap.size + 1 + 1, i, none⟩ = false := by
  have e : ((w.alloc o1).alloc o2).heap.size = w.heap.size + 1 + 1 := by simp
  have h2 := newFrz ((w.alloc o1).alloc o2) cs T i
  rw [e] at h2
  exact h2
/-- A call that answers a query that reads as d. -/
def GaveQ (w : World) (d : QueryD) (e : Ending) (w' : World) : Prop := ∃ a n c a' n' c', e = .returned (.agg #[.slice a n c, .slice a' n' c']) ∧ RdQuery w' (.agg #[.slice a n c, .slice a' n' c']) d ∧ Below w.heap.size w w'

set_option maxHeartbeats 4000000 in
theorem sCopy_any (w : World) (v : Value) (d : QueryD) (h : RdQuery w v d) (hs1 : d.1.length ≤ 1048576) (hs2 : sizeAtomS d.2 ≤ 1048576) :
    Calls Try.prog 84 #[v] w (GaveQ w d) := by
  have HR := Lib.hid (fun W (hb : Below w.heap.size w W) vt (ht : Ints W vt []) => sRenameQuery_any W v vt d [] (RdQuery.below h hb) ht hs1 hs2)
  rw [renQ_nil9] at HR
  obtain ⟨a0, n0, c0, a, n, c, rfl, hi, ha⟩ := h
  have hb0 : ∀ a b c, Below w.heap.size w (((w.alloc a).alloc b).alloc c) := fun a b c => (((Below.refl _ _).alloc (Nat.le_refl _) _).alloc (by simp) _).alloc (by simp; omega) _
  have HB0 := Lib.hid hb0
  clear hi ha hb0 hs1 hs2
  go_enter Try.func84, Try.ntmps84
  go_wp2_with fail
  obtain ⟨W, hW⟩ : ∃ W, W = ((w.alloc (.cells #[.slice a0 n0 c0, .slice a n c] 44)).alloc (.cells #[.slice none 0 0, .slice none 0 0] 44)).alloc (.cells #[] 3) := ⟨_, rfl⟩
  have HBW : Hid (Below w.heap.size w W) := by rw [hW]; exact HB0.out _ _ _
  have k0 : W.cell? ⟨w.heap.size + 1, 0, none⟩ = some (.slice none 0 0) := by rw [hW]; exact box2 w _ _ _ _ 0 _ rfl
  have k1 : W.cell? ⟨w.heap.size + 1, 1, none⟩ = some (.slice none 0 0) := by rw [hW]; exact box2 w _ _ _ _ 1 _ rfl
  have f0 : W.frozen? ⟨w.heap.size + 1, 0, none⟩ = false := by rw [hW]; exact frz2 w _ _ _ _ 0 _ rfl
  have f1 : W.frozen? ⟨w.heap.size + 1, 1, none⟩ = false := by rw [hW]; exact frz2 w _ _ _ _ 1 _ rfl
  have hsl : SlB W (w.heap.size + 1) := by
    rw [hW]
    refine SlB.below (w := (w.alloc (.cells #[.slice a0 n0 c0, .slice a n c] 44)).alloc (.cells #[.slice none 0 0, .slice none 0 0] 44)) ?_ (by simp) (below_alloc _ _)
    have := SlB.new (w.alloc (.cells #[.slice a0 n0 c0, .slice a n c] 44)) none none 0 0 0 0 44
    simpa using this
  have hsz : w.heap.size + 1 < W.heap.size := by rw [hW]; simp
  rw [← hW]
  clear hW
  refine (HR.out _ HBW.out _ (Ints.lit0 _ _)).mono ?_
  rintro e w1 ⟨r, rfl, hr, hb⟩
  replace f0 := frok hb k0 f0
  replace f1 := frok hb k1 f1
  replace k0 := cellk hb k0
  replace k1 := cellk hb k1
  have HSL := Lib.hid (hsl.below hsz hb)
  have HB1 := Lib.hid (bnext HBW.out hb)
  have HR1 := Lib.hid hr
  obtain ⟨ra, rn, rc, ra', rn', rc', rfl, _, _⟩ := hr
  clear hb hsl hsz HR
  go_wp2_with fail
  have hk : OnlyAt [w.heap.size + 1] w1 ((w1.setCell ⟨w.heap.size + 1, 0, none⟩ (.slice ra rn rc)).setCell ⟨w.heap.size + 1, 1, none⟩ (.slice ra' rn' rc')) := (OnlyAt.setCell w1 _ _ _).same (OnlyAt.setCell _ _ _ _)
  exact bodyPost_ret (v := .agg #[.slice ra rn rc, .slice ra' rn' rc']) (by simp [results, Try.results84, go_sem, k0, k1]) rfl ⟨_, _, _, _, _, _, rfl, HR1.out.offS hk HSL.out, OnlyAt.below HB1.out hk (fun x hx => by simp at hx; omega)⟩
end Go.Proofs.Ytgnlglfppeepeaa
