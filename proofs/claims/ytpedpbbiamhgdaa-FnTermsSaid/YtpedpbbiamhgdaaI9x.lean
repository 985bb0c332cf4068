/- Merged of I9a, I9b, I9c, M9k, I9d, I9e, I9f. -/
import Derived.Test.YtpedpbbiamhgdaaS9x
import Derived.Test.YtpedpbbiamhgdaaIrename
import Derived.Deep.RegionLawGrows
import Derived.Deep.RegionHeld3
import Derived.WideKeyEntry
import Derived.WideKeyArr
import Derived.DeepKeys5
import Derived.Maps.OwnOps
import Derived.Maps.OwnSet
import Derived.Maps.OwnIn
import Derived.Test.YtpedpbbiamhgdaaIcAll
import Derived.Test.YtpedpbbiamhgdaaBase
/-! I9a -/
namespace Go.Proofs.Ytpedpbbiamhgdaa
open Go Go.Sort Go.RowKit
set_option linter.unusedVariables false

theorem newA9 (w : World) (cs : Array Value) (T : TypeId) (i : Nat) (v : Value) (h : cs[i]? = some v) : (w.alloc (.cells cs T)).cell? ⟨w.heap.size, i, none⟩ = some v ∧ (w.alloc (.cells cs T)).frozen? ⟨w.heap.size, i, none⟩ = false := ⟨newBox w cs T i v h, newFrz w cs T i⟩
/-- The cells of a row of atoms. -/
def Cs2 (w : World) (L : List Value) (l : List AtomD) : Prop := ∀ j d, l[j]? = some d → ∃ a m c, L[j * 2]? = some (.int .i64 d.1) ∧ L[j * 2 + 1]? = some (.slice a m c) ∧ inI d.1 ∧ Ints w (.slice a m c) d.2
theorem Cs2.below {w w' : World} {L : List Value} {l : List AtomD} (h : Cs2 w L l) (hb : Below w.heap.size w w') : Cs2 w' L l := fun j d hd => by
  obtain ⟨a, m, c, h1, h2, h3, h4⟩ := h j d hd
  exact ⟨a, m, c, h1, h2, h3, h4.below hb⟩
theorem cells2 {w : World} {b off : Nat} {l : List AtomD} (hc : ∀ j d, l[j]? = some d → ∃ cs, cs.length = 2 ∧ (∀ i, i < 2 → w.cell? ⟨b, off + (j * 2 + i), none⟩ = cs[i]?) ∧ CsAtom w cs d) :
    ∃ L : List Value, L.length = l.length * 2 ∧ (∀ j u, L[j]? = some u → w.cell? ⟨b, off + j, none⟩ = some u) ∧ (∀ u ∈ L, u.oneCell' = true) ∧ Cs2 w L l := by
  have H : ∀ j, j < l.length * 2 → ∃ u, w.cell? ⟨b, off + j, none⟩ = some u ∧ u.oneCell' = true := by
    intro j hj
    obtain ⟨cs, _, h2, a, m, c, rfl, _, _⟩ := hc (j / 2) (l[j / 2]'(by omega)) (List.getElem?_eq_getElem (by omega))
    have h0 := h2 0 (by omega)
    have h1 := h2 1 (by omega)
    rcases Nat.mod_two_eq_zero_or_one j with h | h
    · have e : j / 2 * 2 + 0 = j := by omega
      rw [e] at h0
      exact ⟨_, h0, rfl⟩
    · have e : j / 2 * 2 + 1 = j := by omega
      rw [e] at h1
      exact ⟨_, h1, rfl⟩
  have HL : ∀ j, j < l.length * 2 → ((List.range (l.length * 2)).map (fun j => (w.cell? ⟨b, off + j, none⟩).getD undef))[j]? = w.cell? ⟨b, off + j, none⟩ := by
    intro j hj
    obtain ⟨u, hu, _⟩ := H j hj
    rw [List.getElem?_map, List.getElem?_range hj]
    simp [hu]
  refine ⟨(List.range (l.length * 2)).map (fun j => (w.cell? ⟨b, off + j, none⟩).getD undef), by simp, fun j u hu => ?_, fun u hu => ?_, fun j d hd => ?_⟩
  · have hj : j < l.length * 2 := by
      have := (List.getElem?_eq_some_iff.1 hu).1
      simpa using this
    rw [HL j hj] at hu; exact hu
  · obtain ⟨j, hj, rfl⟩ := List.mem_map.1 hu
    obtain ⟨u, hu, h1⟩ := H j (List.mem_range.1 hj)
    rw [hu]; exact h1
  · have hj := (List.getElem?_eq_some_iff.1 hd).1
    obtain ⟨a, m, c, h0, h1, h3, h4⟩ := atomAt (n := 0) hc j d hd
    exact ⟨a, m, c, by rw [HL _ (by omega)]; exact h0, by rw [HL _ (by omega)]; rw [← Nat.add_assoc]; exact h1, h3, h4⟩
theorem cut_get (l : List AtomD) (i j : Nat) (hi : i < l.length) : (cutA l i)[j]? = if j < i then l[j]? else l[j + 1]? := by
  unfold cutA
  have hlen : (l.take i).length = i := by simp; omega
  split
  · rename_i h
    rw [List.getElem?_append_left (by omega), List.getElem?_take_of_lt h]
  · rename_i h
    rw [List.getElem?_append_right (by omega), hlen, List.getElem?_drop]
    congr 1; omega
theorem Cs2.cut {w : World} {L : List Value} {l : List AtomD} (h : Cs2 w L l) (hL : L.length = l.length * 2) {i : Nat} (hi : i < l.length) : Cs2 w (L.take (i * 2) ++ L.drop ((i + 1) * 2)) (cutA l i) := by
  intro j d hd
  rw [cut_get l i j hi] at hd
  have hlen : (L.take (i * 2)).length = i * 2 := by simp; omega
  split at hd
  · rename_i hj
    obtain ⟨a, m, c, h1, h2, h3⟩ := h j d hd
    refine ⟨a, m, c, ?_, ?_, h3⟩
    · rw [List.getElem?_append_left (by omega), List.getElem?_take_of_lt (by omega)]; exact h1
    · rw [List.getElem?_append_left (by omega), List.getElem?_take_of_lt (by omega)]; exact h2
  · rename_i hj
    obtain ⟨a, m, c, h1, h2, h3⟩ := h (j + 1) d hd
    refine ⟨a, m, c, ?_, ?_, h3⟩
    · rw [List.getElem?_append_right (by omega), hlen, List.getElem?_drop]
      rw [show (i + 1) * 2 + (j * 2 - i * 2) = (j + 1) * 2 by omega]; exact h1
    · rw [List.getElem?_append_right (by omega), hlen, List.getElem?_drop]
      rw [show (i + 1) * 2 + (j * 2 + 1 - i * 2) = (j + 1) * 2 + 1 by omega]; exact h2
theorem rd_row {E : TypeId} {w0 w : World} {v : Value} {n : Nat} {cs : List Value} {l : List AtomD} (h : BuiltC E 2 w0 w v n cs) (hl : l.length = n) (hcs : Cs2 w cs l) : RdAtomS w v l := by
  rcases h.form with ⟨rfl, h0⟩ | ⟨g, cap, rfl, h1, h2⟩
  · exact ⟨_, _, _, rfl, none, 0, 0, rfl, by omega, Nat.le_refl _, by unfold maxLen; omega, fun h => by omega⟩
  · refine ⟨_, _, _, rfl, _, n, cap, rfl, hl, h1, h2, fun _ => ⟨g, 0, rfl, h.lt.2, fun j hj => ?_⟩⟩
    obtain ⟨a, m, c, e1, e2, e3, e4⟩ := hcs j l[j] (List.getElem?_eq_getElem hj)
    refine ⟨[.int .i64 l[j].1, .slice a m c], rfl, fun i hi => ?_, a, m, c, rfl, e3, e4⟩
    rw [Nat.zero_add, h.cell _ (by omega)]
    match i, hi with
    | 0, _ => exact e1
    | 1, _ => exact e2

theorem wrap_id9 {x : Int} (h0 : -9223372036854775808 ≤ x) (h1 : x ≤ 9223372036854775807) : IntKind.i64.wrap x = x := by
  rw [IntKind.wrap_i64]; omega
theorem below_drew9 (w : World) : Below w.heap.size w w.drew := (Below.refl _ _).drew
end Go.Proofs.Ytpedpbbiamhgdaa

/-! I9b -/
namespace Go.Proofs.Ytpedpbbiamhgdaa
open Go Go.Sort Go.RowKit
set_option linter.unusedVariables false

theorem RdAtomS.shape9 {w : World} {v : Value} {l : List AtomD} (h : RdAtomS w v l) : ∃ a n c, v = .slice a n c := by
  obtain ⟨a, n, c, rfl, _⟩ := h; exact ⟨a, n, c, rfl⟩
set_option maxHeartbeats 4000000 in
theorem iNewQuery_any (w : World) (va vb : Value) (hd : List Int) (bd : List AtomD) (h1 : Ints w va hd) (h2 : RdAtomS w vb bd) (hz : hd.length + sizeAtomS bd ≤ 1048576) :
    Calls Try.prog 49 #[va, vb] w (GaveO (fun w' v' bs => ROQuery w' v' (hd, bd) bs) w) := by
  obtain ⟨a0, n0, c0, rfl⟩ := h1.shape
  obtain ⟨a, n, c, rfl, h2⟩ := h2
  have HR := Lib.hid (fun W (hb : Below w.heap.size w W) => iRenameQuery_any W (.agg #[.slice a0 n0 c0, .slice a n c]) (.slice none 0 0) (hd, bd) [] ⟨_, _, _, _, _, _, rfl, h1.below hb, RdSl.below h2 (fun _ _ h => h.below hb) hb⟩ (Ints.nil W) hz)
  rw [renQ_nil9] at HR
  clear h1 h2
  go_enter Try.func49, Try.ntmps49
  go_wp2_with fail
  obtain ⟨W, hW⟩ : ∃ W, W = w.alloc (.cells #[.slice none 0 0, .slice none 0 0] 30) := ⟨_, rfl⟩
  have hbw : Below w.heap.size w W := by rw [hW]; exact below_alloc _ _
  have k0 : W.cell? ⟨w.heap.size, 0, none⟩ = some (.slice none 0 0) := by rw [hW]; simp
  have k1 : W.cell? ⟨w.heap.size, 1, none⟩ = some (.slice none 0 0) := by rw [hW]; simp
  have f0 : W.frozen? ⟨w.heap.size, 0, none⟩ = false := by rw [hW]; simp
  have f1 : W.frozen? ⟨w.heap.size, 1, none⟩ = false := by rw [hW]; simp
  have hsz : W.heap.size = w.heap.size + 1 := by rw [hW]; simp
  rw [← hW]
  clear hW
  refine (HR.out _ hbw).mono ?_
  rintro e w1 ⟨r, bs, rfl, hr, hfr, hbb⟩
  replace f0 := frok hbb k0 f0
  replace f1 := frok hbb k1 f1
  replace k0 := cellk hbb k0
  replace k1 := cellk hbb k1
  have HR1 := Lib.hid hr
  have HF1 := Lib.hid hfr
  have HB1 := Lib.hid (bnext hbw hbb)
  obtain ⟨ra, rn, rc, ra', rn', rc', rfl, _⟩ := hr
  clear hbb hfr hbw
  go_wp2_with fail
  have hk : OnlyAt [w.heap.size] w1 ((w1.setCell ⟨w.heap.size, 0, none⟩ (.slice ra rn rc)).setCell ⟨w.heap.size, 1, none⟩ (.slice ra' rn' rc')) := (OnlyAt.setCell w1 _ _ _).same (OnlyAt.setCell _ _ _ _)
  exact bodyPost_ret (v := .agg #[.slice ra rn rc, .slice ra' rn' rc']) (by simp [results, Try.results49, go_sem, k0, k1]) rfl ⟨_, bs, rfl, HR1.out.onlyAt hk (fun b hb hm => by have := (HF1.out.2 b hb).1; simp at hm; omega), ⟨HF1.out.1, fun b hb => ⟨by have := (HF1.out.2 b hb).1; omega, Nat.lt_of_lt_of_le (HF1.out.2 b hb).2 hk.size⟩⟩, OnlyAt.below HB1.out hk (fun x hx => by simp at hx; omega)⟩

/-- A query of its own memory laid into a box. -/
def LaidQ (W : World) (q : QueryD) (wx : World) (B : Nat) (a : Option Addr) (n c : Nat) (a' : Option Addr) (n' c' : Nat) (bs : List Nat) : Prop :=
  wx.cell? ⟨B, 0, none⟩ = some (.slice a n c) ∧ wx.cell? ⟨B, 1, none⟩ = some (.slice a' n' c') ∧ wx.frozen? ⟨B, 0, none⟩ = false ∧ wx.frozen? ⟨B, 1, none⟩ = false ∧ ROQuery wx (.agg #[.slice a n c, .slice a' n' c']) q bs ∧ bs.Nodup ∧ (∀ b ∈ bs, W.heap.size ≤ b ∧ b < wx.heap.size ∧ b ≠ B) ∧ W.heap.size ≤ B ∧ B < wx.heap.size ∧ Below W.heap.size W wx
theorem laidQ_set {W w4 : World} {q : QueryD} {B : Nat} {a : Option Addr} {n c : Nat} {a' : Option Addr} {n' c' : Nat} {bs : List Nat} {u u' : Value} (hro : ROQuery w4 (.agg #[.slice a n c, .slice a' n' c']) q bs) (hnd : bs.Nodup) (hlo : ∀ b ∈ bs, W.heap.size ≤ b ∧ b < w4.heap.size ∧ b ≠ B) (hB : W.heap.size ≤ B) (hb : Below W.heap.size W w4) (z0 : w4.cell? ⟨B, 0, none⟩ = some u) (z1 : w4.cell? ⟨B, 1, none⟩ = some u') (y0 : w4.frozen? ⟨B, 0, none⟩ = false) (y1 : w4.frozen? ⟨B, 1, none⟩ = false) :
    LaidQ W q ((w4.setCell ⟨B, 0, none⟩ (.slice a n c)).setCell ⟨B, 1, none⟩ (.slice a' n' c')) B a n c a' n' c' bs := by
  have hk : OnlyAt [B] w4 ((w4.setCell ⟨B, 0, none⟩ (.slice a n c)).setCell ⟨B, 1, none⟩ (.slice a' n' c')) := (OnlyAt.setCell w4 _ _ _).same (OnlyAt.setCell _ _ _ _)
  have e1 : (w4.setCell ⟨B, 0, none⟩ (.slice a n c)).cell? ⟨B, 0, none⟩ = some (.slice a n c) := World.cell?_setCell_same _ _ _ z0
  have e2 : (w4.setCell ⟨B, 0, none⟩ (.slice a n c)).cell? ⟨B, 1, none⟩ = some u' := by rw [World.cell?_setCell_other _ _ _ _ (by intro e; cases e)]; exact z1
  refine ⟨?_, World.cell?_setCell_same _ _ _ e2, by simpa using y0, by simpa using y1, hro.onlyAt hk (fun b hb' hm => (hlo b hb').2.2 (by simpa using hm)), hnd, fun b hb' => ⟨(hlo b hb').1, Nat.lt_of_lt_of_le (hlo b hb').2.1 hk.size, (hlo b hb').2.2⟩, hB, Nat.lt_of_lt_of_le (World.block_lt_of_cell? _ _ z0) hk.size, OnlyAt.below hb hk (fun b hb' => by simp at hb'; omega)⟩
  rw [World.cell?_setCell_other _ _ _ _ (by intro e; cases e)]; exact e1
theorem laidQ_new {W w4 : World} {q : QueryD} {a : Option Addr} {n c : Nat} {a' : Option Addr} {n' c' : Nat} {bs : List Nat} {T : TypeId} (hro : ROQuery w4 (.agg #[.slice a n c, .slice a' n' c']) q bs) (hnd : bs.Nodup) (hlo : ∀ b ∈ bs, W.heap.size ≤ b ∧ b < w4.heap.size) (hb : Below W.heap.size W w4) :
    LaidQ W q (w4.alloc (.cells #[.slice a n c, .slice a' n' c'] T)) w4.heap.size a n c a' n' c' bs := by
  exact ⟨by simp, by simp, by simp, by simp, hro.below (below_alloc _ _), hnd, fun b hb' => ⟨(hlo b hb').1, by have := (hlo b hb').2; simp; omega, by have := (hlo b hb').2; omega⟩, hb.size, by simp, bnext hb (below_alloc _ _)⟩
theorem LaidQ.below {W wx w' : World} {q : QueryD} {B : Nat} {a : Option Addr} {n c : Nat} {a' : Option Addr} {n' c' : Nat} {bs : List Nat} (h : LaidQ W q wx B a n c a' n' c' bs) (hb : Below wx.heap.size wx w') : LaidQ W q w' B a n c a' n' c' bs := by
  obtain ⟨h1, h2, h3, h4, h5, h6, h7, h8, h9, h10⟩ := h
  exact ⟨cellk hb h1, cellk hb h2, frok hb h1 h3, frok hb h2 h4, h5.below hb, h6, fun b hb' => ⟨(h7 b hb').1, Nat.lt_of_lt_of_le (h7 b hb').2.1 hb.size, (h7 b hb').2.2⟩, h8, Nat.lt_of_lt_of_le h9 hb.size, bnext h10 hb⟩

/-- A call that answers a query of its own memory that reads as d, and b. -/
def GaveQBo (w : World) (d : QueryD) (b : Bool) (e : Ending) (w' : World) : Prop := ∃ a n c a' n' c' bs, e = .returned (.tuple #[.agg #[.slice a n c, .slice a' n' c'], .bool b]) ∧ ROQuery w' (.agg #[.slice a n c, .slice a' n' c']) d bs ∧ Fresh w w' bs ∧ Below w.heap.size w w'
end Go.Proofs.Ytpedpbbiamhgdaa

/-! I9c -/
namespace Go.Proofs.Ytpedpbbiamhgdaa
open Go Go.Sort Go.RowKit
set_option linter.unusedVariables false

/-- A call that answers the first redundant atom's index, and whether there is one. -/
def GaveFR (w : World) (o : Option Nat) (e : Ending) (w' : World) : Prop := e = .returned (.tuple #[.int .i64 ((o.getD 0 : Nat) : Int), .bool o.isSome]) ∧ Below w.heap.size w w'
theorem ret_fr {a b : Int} {c d : Bool} (h : a = b) (h2 : c = d) : Ending.returned (.tuple #[.int .i64 a, .bool c]) = .returned (.tuple #[.int .i64 b, .bool d]) := by rw [h, h2]
end Go.Proofs.Ytpedpbbiamhgdaa

/-! M9k -/
namespace Go.Proofs.Ytpedpbbiamhgdaa
open Go Go.WideElems Go.ChangeShapes Go.WideShapes Go.MapKept Go.ChangeMaps Go.RowKit
set_option linter.unusedVariables false

def prs9 (es : Array MapEntry) : List (Value × Value) := es.toList.map (fun x => (x.key, x.val))
/-- The keys are keys, all different, and the entries are stamped. -/
structure Keyed9 (P : Program) (k : TypeId) (es : Array MapEntry) (clock : Nat) : Prop where
  stamped : Stamped es clock
  keys : ∀ x ∈ es.toList, ∃ l, keyOf P k x.key = some l
theorem Keyed9.empty (P : Program) (k : TypeId) (clock : Nat) : Keyed9 P k #[] clock := ⟨stamped_empty clock, fun x hx => by simp at hx⟩
theorem modify9 {es : Array MapEntry} {j : Nat} {e0 : MapEntry} (f : MapEntry → MapEntry) (h : es.toList[j]? = some e0) : (es.modify j f).toList = es.toList.set j (f e0) := by
  rw [Array.toList_modify, modify_eq_set _ _ _ _ h]

section
variable {P : Program} {w : World} {t k e : TypeId} {b : Nat} {es : Array MapEntry} {clock : Nat}
theorem keyed9_push (F : Keyed9 P k es clock) {key v : Value} {kl : Lit} (hkey : keyOf P k key = some kl) (h2 : ∀ x ∈ es.toList, x.key ≠ key) : Keyed9 P k (es.push ⟨key, v, clock⟩) (clock + 1) :=
  ⟨stamped_push F.stamped h2, fun x hx => by
    rw [Array.toList_push] at hx
    rcases List.mem_append.1 hx with h | h
    · exact F.keys x h
    · rw [List.mem_singleton.1 h]; exact ⟨kl, hkey⟩⟩
theorem keyed9_val (F : Keyed9 P k es clock) {j : Nat} {e0 : MapEntry} (h : es.toList[j]? = some e0) (v : Value) : Keyed9 P k (es.modify j (fun e => { e with val := v })) clock :=
  ⟨stamped_modify F.stamped j _ (fun _ _ => rfl) (fun _ _ _ => rfl), fun x hx => by
    rw [modify9 _ h] at hx
    rcases List.mem_or_eq_of_mem_set hx with h1 | h1
    · exact F.keys x h1
    · rw [h1]; exact F.keys e0 (List.mem_of_getElem? h)⟩
theorem lookup9_there (K : Maps.Keyed P k) (ht : P.underlying t = some (.map k e)) (hb : w.heap[b]? = some (.map es clock)) (F : Keyed9 P k es clock) {key : Value} {kl : Lit} (hkey : keyOf P k key = some kl) {e0 : MapEntry} (h0 : e0 ∈ es.toList) (he : e0.key = key) :
    (Instr.lookup t (.map (some b)) key false).run P w = .ok e0.val w := by
  rcases K.find w hkey es.toList F.keys with ⟨h1, h2⟩ | ⟨j, e1, h1, h2, h3⟩
  · exact absurd he (h2 e0 h0)
  · have : e1 = e0 := by
      have hn := F.stamped.2.2
      obtain ⟨i, hi⟩ := List.mem_iff_getElem?.1 h0
      have a1 : (es.toList.map (·.key))[j]? = some key := by rw [List.getElem?_map, h2]; exact congrArg some h3
      have a2 : (es.toList.map (·.key))[i]? = some key := by rw [List.getElem?_map, hi]; exact congrArg some he
      obtain ⟨x1, y1⟩ := List.getElem?_eq_some_iff.1 a1
      obtain ⟨x2, y2⟩ := List.getElem?_eq_some_iff.1 a2
      have := (List.getElem_inj (h₀ := x1) (h₁ := x2) hn).1 (y1.trans y2.symm)
      subst this
      rw [hi] at h2
      exact (Option.some.inj h2).symm
    subst this
    simp [Instr.lookup, run_underlying ht, MapKept.run_getObj_map hb, K.check w _ hkey, h1, Result.andThen]
theorem lookup9_none (K : Maps.Keyed P k) (ht : P.underlying t = some (.map k e)) {z : Value} (hz : ∀ u : World, (zeroValue e).run P u = .ok z u) (hb : w.heap[b]? = some (.map es clock)) (F : Keyed9 P k es clock) {key : Value} {kl : Lit} (hkey : keyOf P k key = some kl) (hno : ∀ x ∈ es.toList, x.key ≠ key) :
    (Instr.lookup t (.map (some b)) key false).run P w = .ok z w := by
  rcases K.find w hkey es.toList F.keys with ⟨h1, h2⟩ | ⟨j, e1, h1, h2, h3⟩
  · simp [Instr.lookup, run_underlying ht, MapKept.run_getObj_map hb, K.check w _ hkey, h1, hz, Result.andThen]
  · exact absurd h3 (hno e1 (List.mem_of_getElem? h2))
/-- m[key]: what the lookup gives, ahead of the entry and behind it, the entry, and what is stored into it. -/
theorem incr9 (K : Maps.Keyed P k) (ht : P.underlying t = some (.map k e)) {z : Value} (hz : ∀ u : World, (zeroValue e).run P u = .ok z u) (F : Keyed9 P k es clock) {key : Value} {kl : Lit} (hkey : keyOf P k key = some kl) :
    ∃ (v0 : Value) (st : Nat) (es1 : Array MapEntry) (clock1 : Nat),
      (∀ w : World, w.heap[b]? = some (.map es clock) → (Instr.lookup t (.map (some b)) key false).run P w = .ok v0 w) ∧
      (∀ w : World, w.heap[b]? = some (.map es1 clock1) → (Instr.lookup t (.map (some b)) key false).run P w = .ok v0 w) ∧
      (∀ w : World, w.heap[b]? = some (.map es clock) → (Instr.mapEntry t (.map (some b)) key).run P w = .ok (.tuple #[v0, goInt st]) (setBlock w b (.map es1 clock1))) ∧
      (∀ val, ∃ es2, Keyed9 P k es2 clock1 ∧ (∀ w : World, w.heap[b]? = some (.map es1 clock1) → (Instr.entryStore t (.map (some b)) (goInt st) val).run P w = .ok () (setBlock w b (.map es2 clock1))) ∧
        ((∃ j, (prs9 es)[j]? = some (key, v0) ∧ prs9 es2 = (prs9 es).set j (key, val)) ∨ ((∀ x ∈ prs9 es, x.1 ≠ key) ∧ v0 = z ∧ prs9 es2 = prs9 es ++ [(key, val)]))) := by
  obtain ⟨s1, s2, _⟩ := F.stamped
  rcases K.find { (default : World) with heap := #[] } hkey es.toList F.keys with ⟨_, h2⟩ | ⟨j, e0, _, h2, h3⟩
  · have F1 := keyed9_push (v := z) F hkey h2
    have hfind : ∀ w : World, (Instr.findKey k key es.toList).run P w = .ok none w := fun w => by
      rcases K.find w hkey es.toList F.keys with ⟨h1, _⟩ | ⟨j, e1, _, h4, h5⟩
      · exact h1
      · exact absurd h5 (h2 e1 (List.mem_of_getElem? h4))
    refine ⟨z, clock, es.push ⟨key, z, clock⟩, clock + 1, fun w hb => lookup9_none K ht hz hb F hkey h2, fun w hb => lookup9_there K ht hb F1 hkey (e0 := ⟨key, z, clock⟩) (by simp) rfl, fun w hb => ?_, fun val => ⟨es.push ⟨key, val, clock⟩, keyed9_push F hkey h2, fun w hw2 => ?_, .inr ⟨fun x hx => ?_, rfl, by simp [prs9]⟩⟩⟩
    · simp [Instr.mapEntry, run_underlying ht, MapKept.run_getObj_map hb, K.check w false hkey, hfind, hz, MapKept.run_setObj_map _ hb, Result.andThen, setBlock]
    · have hidx : (es.push ⟨key, z, clock⟩).findIdx? (fun e => ((e.born : Nat) : Int) == ((clock : Nat) : Int)) = some es.size := by
        rw [findIdx_arr]
        exact findIdx_born (l := (es.push ⟨key, z, clock⟩).toList) (j := es.size) (e0 := ⟨key, z, clock⟩) F1.stamped.2.1 (by simp)
      have hmod : (es.push ⟨key, z, clock⟩).modify es.size (fun e => { e with val := val }) = es.push ⟨key, val, clock⟩ := by
        apply Array.ext'
        rw [Array.toList_modify, Array.toList_push, Array.toList_push, ← Array.length_toList, modify_last]
      simp [Instr.entryStore, MapKept.run_getObj_map hw2, asInt, asIntOf, goInt, hidx, hmod, MapKept.run_setObj_map _ hw2, Result.andThen, setBlock]
    · obtain ⟨y, hy, rfl⟩ := List.mem_map.1 hx
      exact h2 y hy
  · have hm0 : e0 ∈ es.toList := List.mem_of_getElem? h2
    have hj : es[j]? = some e0 := by simpa using h2
    have hfind : ∀ w : World, (Instr.findKey k key es.toList).run P w = .ok (some (j, e0.val)) w := fun w => by
      rcases K.find w hkey es.toList F.keys with ⟨_, h1⟩ | ⟨i, e1, h1, h4, h5⟩
      · exact absurd h3 (h1 e0 hm0)
      · have hn := F.stamped.2.2
        have a1 : (es.toList.map (·.key))[j]? = some key := by rw [List.getElem?_map, h2]; exact congrArg some h3
        have a2 : (es.toList.map (·.key))[i]? = some key := by rw [List.getElem?_map, h4]; exact congrArg some h5
        obtain ⟨x1, y1⟩ := List.getElem?_eq_some_iff.1 a1
        obtain ⟨x2, y2⟩ := List.getElem?_eq_some_iff.1 a2
        have := (List.getElem_inj (h₀ := x1) (h₁ := x2) hn).1 (y1.trans y2.symm)
        subst this
        rw [h2] at h4
        cases h4
        exact h1
    have hsame : es.modify j (fun e => { e with key := key }) = es := by
      apply Array.ext'
      rw [Array.toList_modify, modify_eq_set _ _ _ _ h2]
      have : ({ e0 with key := key } : MapEntry) = e0 := by rw [← h3]
      rw [this]
      exact set_self _ _ _ h2
    refine ⟨e0.val, e0.born, es, clock, fun w hb => lookup9_there K ht hb F hkey hm0 h3, fun w hb => lookup9_there K ht hb F hkey hm0 h3, fun w hb => ?_, fun val => ⟨es.modify j (fun e => { e with val := val }), keyed9_val F h2 val, fun w hw2 => ?_, .inl ⟨j, by rw [prs9, List.getElem?_map, h2, ← h3]; rfl, by rw [prs9, modify9 _ h2, List.map_set, ← h3]; rfl⟩⟩⟩
    · simp [Instr.mapEntry, run_underlying ht, MapKept.run_getObj_map hb, K.check w false hkey, hfind, hj, h3, K.stays w hkey, hsame, MapKept.run_setObj_map _ hb, Result.andThen, setBlock]
    · have hidx : es.findIdx? (fun e => ((e.born : Nat) : Int) == ((e0.born : Nat) : Int)) = some j := by
        rw [findIdx_arr]
        exact findIdx_born s2 h2
      simp [Instr.entryStore, MapKept.run_getObj_map hw2, asInt, asIntOf, goInt, hidx, MapKept.run_setObj_map _ hw2, Result.andThen, setBlock]
end
theorem laid9 : laidOutB Try.prog = true := by kernel_rfl
theorem wf9 {n : Int} (h : inI n) : (Lit.int .i64 n).wf = true := by
  unfold inI at h
  have e1 : IntKind.i64.min = -9223372036854775808 := by decide
  have e2 : IntKind.i64.max = 9223372036854775807 := by decide
  simp [Lit.wf, e1, e2]
  omega
end Go.Proofs.Ytpedpbbiamhgdaa

/-! I9d -/
namespace Go.Proofs.Ytpedpbbiamhgdaa
open Go Go.Sort Go.RowKit
set_option linter.unusedVariables false

def GaveIx (w : World) (q : Bool) (e : Ending) (w' : World) : Prop := ∃ m : Int, e = .returned (.int .i64 m) ∧ decide (0 ≤ m) = q ∧ Below w.heap.size w w'
end Go.Proofs.Ytpedpbbiamhgdaa

/-! I9e -/
namespace Go.Proofs.Ytpedpbbiamhgdaa
open Go Go.Sort Go.RowKit
open Go.ChangeMaps (setBlock heap_setBlock_same heap_setBlock_other)
set_option linter.unusedVariables false

section
variable {P : Program}
theorem wpList_app1E {w w0 : World} {ops : Array Oper} {rest : List Oper} {o : Oper} {a : Act} {Q : Exit → Act → World → Prop} (hgd : o.guard = none) (s x : Operand) (t : TypeId)
    (ho : o.op = .call { callee := .builtin .append, args := #[s, x], argTypes := #[t, t] })
    (E : TypeId) (z : Value) (size bytes : Nat) (ht : P.underlying t = some (.slice E)) (hinfo : (P.info? E).map (fun i => (i.zero, i.size, i.bytes)) = some (some z, size, bytes)) (h8 : bytes ≤ 128) (hsz : 0 < size) (hzs : z.cells.size = size)
    (v : Value) (n : Nat) (cs : List Value) (hs : a.eval s = v) (hown : BuiltC E size w0 w v n cs) (g : Nat) (new : List Value) (hnew : new.length = size) (h1 : ∀ u ∈ new, u.oneCell' = true)
    (hx : a.eval x = .slice (some ⟨g, 0, none⟩) 1 1) (hblk : w.heap[g]? = some (.cells new.toArray E (0, 0))) (hn : n + 1 ≤ 1099511627776)
    (h : ∀ g' cap' w', BuiltC E size w0 w' (.slice (some ⟨g', 0, none⟩) (n + 1) cap') (n + 1) (cs ++ new) → OnlyAt (blk v) w w' → (∀ b ∈ blk (.slice (some ⟨g', 0, none⟩) (n + 1) cap'), b ∈ blk v ∨ b = w.heap.size) → wpList P ops Q rest (a.put o.dst (.slice (some ⟨g', 0, none⟩) (n + 1) cap')) w') : wpList P ops Q (o :: rest) a w := by
  refine wpList_plain hgd fun K hK => ?_
  have := step_app1D (P := P) (K := K) (Q := Q) (ops := ops) (F := True) hgd s x t ho E z size bytes ht hinfo h8 hsz hzs v n cs hs hown g new hnew h1 hx hblk hn (fun g' cap' w' hb ho hbl => hK _ _ (h g' cap' w' hb ho hbl))
  rwa [if_pos (by simp [Region.wanted, hgd])] at this
end
theorem virt9 (w : World) (B : Nat) (h : B ≤ w.heap.size) : ∃ W : World, W.heap.size = B ∧ Below W.heap.size W w := by
  refine ⟨{ w with heap := w.heap.extract 0 B }, by simp; omega, rfl, rfl, rfl, by simp; omega, fun k hk => ?_⟩
  simp at hk
  simp [Array.getElem?_extract]
  omega
theorem OnlyAt.sub9 {bs bs' : List Nat} {w w' : World} (h : OnlyAt bs w w') (hs : ∀ b ∈ bs, b ∈ bs') : OnlyAt bs' w w' := ⟨h.os, h.tape, h.output, h.size, fun k hk hn => h.block k hk (fun e => hn (hs k e))⟩
theorem OnlyAt.above9 {M : Nat} {bs : List Nat} {W w w' : World} (h : OnlyAt [M] W w) (k : OnlyAt bs w w') (hn : ∀ b ∈ bs, b = M ∨ W.heap.size ≤ b) : OnlyAt [M] W w' :=
  ⟨k.os.trans h.os, k.tape.trans h.tape, k.output.trans h.output, Nat.le_trans h.size k.size, fun i hi hb =>
    (k.block i (Nat.lt_of_lt_of_le hi h.size) (fun e => by
      rcases hn i e with h1 | h1
      · exact hb (by simp [h1])
      · omega)).trans (h.block i hi hb)⟩
theorem zbk9 {w w' : World} {B : Nat} {o : Obj} (hb : Below w.heap.size w w') (hz : w.heap[B]? = some o) : w'.heap[B]? = some o := (hb.block B (Array.getElem?_eq_some_iff.1 hz).1).trans hz
theorem zb9_lt {w : World} {b o : Nat} {v : Value} (h : w.cell? ⟨b, o, none⟩ = some v) : b < w.heap.size := World.block_lt_of_cell? _ _ h
theorem setBlock_only9 (W : World) (b : Nat) (o : Obj) : OnlyAt [b] W (setBlock W b o) :=
  ⟨rfl, rfl, rfl, by simp [setBlock], fun k _ hn => by simp [setBlock, show ¬ b = k from fun e => hn (by simp [e])]⟩
theorem setBlock_heap9 {W : World} {b : Nat} {o o' : Obj} (h : W.heap[b]? = some o) : (setBlock W b o').heap[b]? = some o' := by
  unfold setBlock; simp [(Array.getElem?_eq_some_iff.1 h).1]

/-- A row of atoms, of its own from LB on; the atoms' arguments lay there in w0. -/
def RowA (LB : Nat) (w0 w : World) (v : Value) (l : List AtomD) : Prop := LB ≤ w.heap.size ∧ ∃ cs, w.ownsRow LB 37 2 v l.length cs ∧ Cs2 w0 cs l
theorem RowA.nil {LB : Nat} {w0 w : World} (h : LB ≤ w.heap.size) : RowA LB w0 w (.slice none 0 0) [] := ⟨h, [], World.ownsRow_nil _ _ _ _, fun j d hd => by simp at hd⟩
theorem RowA.built {LB : Nat} {w0 w : World} {v : Value} {l : List AtomD} (h : RowA LB w0 w v l) : ∃ W cs, W.heap.size = LB ∧ BuiltC 37 2 W w v l.length cs ∧ Cs2 w0 cs l := by
  obtain ⟨hL, cs, h1, h2⟩ := h
  obtain ⟨W, hW, hb⟩ := virt9 w LB hL
  exact ⟨W, cs, hW, ⟨by rw [hW]; exact h1, hb⟩, h2⟩
theorem RowA.ofBuilt {LB : Nat} {w0 W w : World} {v : Value} {l : List AtomD} {cs : List Value} (hW : W.heap.size = LB) (h : BuiltC 37 2 W w v l.length cs) (h2 : Cs2 w0 cs l) : RowA LB w0 w v l := ⟨by rw [← hW]; exact h.2.size, cs, by rw [← hW]; exact h.1, h2⟩
theorem RowA.lo {LB : Nat} {w0 w : World} {v : Value} {l : List AtomD} (h : RowA LB w0 w v l) : ∀ b ∈ blk v, LB ≤ b ∧ b < w.heap.size := by
  obtain ⟨W, cs, hW, h1, _⟩ := h.built
  intro b hb
  rcases h1.form with ⟨rfl, _⟩ | ⟨g, cap, rfl, _⟩
  · simp [blk] at hb
  · simp [blk] at hb; subst hb; rw [← hW]; exact h1.lt
theorem RowA.only {LB : Nat} {w0 w w' : World} {v : Value} {l : List AtomD} {bs : List Nat} (h : RowA LB w0 w v l) (ko : OnlyAt bs w w') (hn : ∀ b ∈ blk v, b ∉ bs) : RowA LB w0 w' v l := by
  obtain ⟨hL, cs, ⟨e1, e2⟩, h2⟩ := h
  refine ⟨Nat.le_trans hL ko.size, cs, ⟨e1, ?_⟩, h2⟩
  rcases e2 with h4 | ⟨g, cap, cur, rfl, h4, hg, h5⟩
  · exact .inl h4
  · exact .inr ⟨g, cap, cur, rfl, h4, by rw [ko.block g (Array.getElem?_eq_some_iff.1 hg).1 (hn g (by simp [blk]))]; exact hg, h5⟩
theorem RowA.below {LB : Nat} {w0 w w' : World} {v : Value} {l : List AtomD} (h : RowA LB w0 w v l) (hb : Below w.heap.size w w') : RowA LB w0 w' v l := h.only (OnlyAt.ofBelow [] hb) (fun _ _ hm => by simp at hm)
theorem RowA.rd {LB : Nat} {w0 w : World} {v : Value} {l : List AtomD} (h : RowA LB w0 w v l) (hb : Below w0.heap.size w0 w) : RdAtomS w v l := by
  obtain ⟨W, cs, hW, h1, h2⟩ := h.built
  exact rd_row h1 rfl (h2.below hb)
theorem RowA.form {LB : Nat} {w0 w : World} {v : Value} {l : List AtomD} (h : RowA LB w0 w v l) : ∃ a c, v = .slice a l.length c := by
  obtain ⟨W, cs, hW, h1, _⟩ := h.built
  rcases h1.form with ⟨rfl, h0⟩ | ⟨g, cap, rfl, _⟩
  · exact ⟨none, 0, by rw [h0]⟩
  · exact ⟨_, _, rfl⟩
theorem Cs2.snoc {w : World} {L : List Value} {l : List AtomD} (h : Cs2 w L l) (hL : L.length = l.length * 2) {e : AtomD} {a : Option Addr} {m c : Nat} (hi : inI e.1) (he : Ints w (.slice a m c) e.2) : Cs2 w (L ++ [.int .i64 e.1, .slice a m c]) (l ++ [e]) := by
  intro j d hd
  by_cases hj : j < l.length
  · rw [List.getElem?_append_left hj] at hd
    obtain ⟨a', m', c', h1, h2, h3⟩ := h j d hd
    exact ⟨a', m', c', by rw [List.getElem?_append_left (by omega)]; exact h1, by rw [List.getElem?_append_left (by omega)]; exact h2, h3⟩
  · rw [List.getElem?_append_right (by omega)] at hd
    have h0 : j - l.length = 0 := by
      have := (List.getElem?_eq_some_iff.1 hd).1
      simp at this; omega
    rw [h0] at hd
    simp at hd
    subst hd
    refine ⟨a, m, c, ?_, ?_, hi, he⟩
    · rw [List.getElem?_append_right (by omega), show j * 2 - L.length = 0 by omega]; rfl
    · rw [List.getElem?_append_right (by omega), show j * 2 + 1 - L.length = 1 by omega]; rfl

def pk9 (a : AtomD) : Value := packed a.1 a.2.length a.2
/-- The map's entries: for each key the kept atoms that have it, in rows of their own; kv: the row of all kept. -/
def Bks (LB : Nat) (w0 w : World) (L : List AtomD) (es : Array MapEntry) (kv : Value) : Prop :=
  ∃ ats : List (Value × Value × List AtomD), prs9 es = ats.map (fun p => (p.1, p.2.1)) ∧ (∀ p ∈ ats, RowA LB w0 w p.2.1 p.2.2) ∧ (∀ p ∈ ats, ∀ b ∈ blk p.2.1, b ∉ blk kv) ∧ (∀ (i j : Nat) (p q : Value × Value × List AtomD), ats[i]? = some p → ats[j]? = some q → i ≠ j → p.1 ≠ q.1 ∧ ∀ b ∈ blk p.2.1, b ∉ blk q.2.1) ∧ (∀ p ∈ ats, p.2.2.length ≤ L.length ∧ ∀ a ∈ p.2.2, a ∈ L) ∧ ∀ a ∈ L, ∃ p ∈ ats, p.1 = pk9 a ∧ a ∈ p.2.2
theorem Bks.nil (LB : Nat) (w0 w : World) (kv : Value) : Bks LB w0 w [] #[] kv := ⟨[], rfl, fun p hp => by simp at hp, fun p hp => by simp at hp, fun i j p q h => by simp at h, fun p hp => by simp at hp, fun a ha => by simp at ha⟩
theorem Bks.below {LB : Nat} {w0 w w' : World} {L : List AtomD} {es : Array MapEntry} {kv : Value} (h : Bks LB w0 w L es kv) (hb : Below w.heap.size w w') : Bks LB w0 w' L es kv := by
  obtain ⟨ats, h1, h2, h3⟩ := h
  exact ⟨ats, h1, fun p hp => (h2 p hp).below hb, h3⟩
/-- The row of all kept grows: the others stay. -/
theorem Bks.kept {LB : Nat} {w0 w w' : World} {L : List AtomD} {es : Array MapEntry} {kv kv' : Value} (h : Bks LB w0 w L es kv) (ko : OnlyAt (blk kv) w w') (hv : ∀ b ∈ blk kv', b ∈ blk kv ∨ w.heap.size ≤ b) : Bks LB w0 w' L es kv' := by
  obtain ⟨ats, h1, h2, h3, h4, h5⟩ := h
  refine ⟨ats, h1, fun p hp => (h2 p hp).only ko (h3 p hp), fun p hp b hb hm => ?_, h4, h5⟩
  rcases hv b hm with h | h
  · exact h3 p hp b hb h
  · have := ((h2 p hp).lo b hb).2; omega
theorem Bks.find {LB : Nat} {w0 w : World} {L : List AtomD} {es : Array MapEntry} {kv v0 : Value} {e : AtomD} (h : Bks LB w0 w L es kv) (hL : LB ≤ w.heap.size) (hkv : ∀ b ∈ blk kv, b < w.heap.size)
    (hd : (∃ j : Nat, (prs9 es)[j]? = some (pk9 e, v0)) ∨ ((∀ x ∈ prs9 es, x.1 ≠ pk9 e) ∧ v0 = .slice none 0 0)) :
    ∃ l0, RowA LB w0 w v0 l0 ∧ l0.length ≤ L.length ∧ (e ∈ l0 ↔ e ∈ L) ∧ (∀ b ∈ blk v0, b ∉ blk kv) ∧
      ∀ (w' : World) (val : Value) (es2 : Array MapEntry) (M : Nat), OnlyAt (M :: blk v0) w w' → M < LB → RowA LB w0 w' val (l0 ++ [e]) → (∀ b ∈ blk val, b ∈ blk v0 ∨ w.heap.size ≤ b) →
        ((∃ j : Nat, (prs9 es)[j]? = some (pk9 e, v0) ∧ prs9 es2 = (prs9 es).set j (pk9 e, val)) ∨ ((∀ x ∈ prs9 es, x.1 ≠ pk9 e) ∧ v0 = .slice none 0 0 ∧ prs9 es2 = prs9 es ++ [(pk9 e, val)])) → Bks LB w0 w' (L ++ [e]) es2 kv := by
  obtain ⟨ats, h1, h2, h3, h4, h5, h6⟩ := h
  rcases hd with ⟨j, hj⟩ | ⟨hno, rfl⟩
  · have hjj := hj
    rw [h1, List.getElem?_map, Option.map_eq_some_iff] at hjj
    obtain ⟨p, hp, hpe⟩ := hjj
    obtain ⟨e1, e2⟩ := Prod.mk.inj hpe
    subst e2
    have hpm := List.mem_of_getElem? hp
    have huniq : ∀ j' p', ats[j']? = some p' → p'.1 = pk9 e → j' = j := fun j' p' hp' he => by
      by_cases hjj : j' = j
      · exact hjj
      · exact absurd (he.trans e1.symm) (h4 j' j p' p hp' hp hjj).1
    refine ⟨p.2.2, h2 p hpm, (h5 p hpm).1, ⟨fun he => (h5 p hpm).2 e he, fun he => ?_⟩, h3 p hpm, fun w' val es2 M ko hM hrow hbv hput => ?_⟩
    · obtain ⟨p', hp', hk, hm⟩ := h6 e he
      obtain ⟨j', hj'⟩ := List.mem_iff_getElem?.1 hp'
      have := huniq j' p' hj' hk
      subst this
      rw [hp] at hj'; cases hj'; exact hm
    · rcases hput with ⟨j', hj', hset⟩ | ⟨hno, _⟩
      · rw [h1, List.getElem?_map, Option.map_eq_some_iff] at hj'
        obtain ⟨p', hp', hpe'⟩ := hj'
        have := huniq j' p' hp' (Prod.mk.inj hpe').1
        subst this
        have hjl := (List.getElem?_eq_some_iff.1 hp).1
        have hget : ∀ i q, (ats.set j' (pk9 e, val, p.2.2 ++ [e]))[i]? = some q → (i = j' ∧ q = (pk9 e, val, p.2.2 ++ [e])) ∨ (i ≠ j' ∧ ats[i]? = some q) := fun i q hq => by
          rw [List.getElem?_set] at hq
          split at hq
          · rename_i hi
            first | (cases hq; exact .inl ⟨hi.symm, rfl⟩) | (rw [if_pos (by omega)] at hq; cases hq; exact .inl ⟨hi.symm, rfl⟩)
          · rename_i hi
            exact .inr ⟨fun h => hi h.symm, hq⟩
        have hoth : ∀ i q, ats[i]? = some q → i ≠ j' → ∀ b ∈ blk q.2.1, b ∉ M :: blk p.2.1 := fun i q hq hi b hb hm => by
          rcases List.mem_cons.1 hm with h | h
          · have := ((h2 q (List.mem_of_getElem? hq)).lo b hb).1; omega
          · exact (h4 i j' q p hq hp hi).2 b hb h
        refine ⟨ats.set j' (pk9 e, val, p.2.2 ++ [e]), by rw [hset, h1, List.map_set], fun q hq => ?_, fun q hq b hb hm => ?_, fun i k q q' hq hq' hne => ?_, fun q hq => ⟨?_, fun a ha => ?_⟩, fun a ha => ?_⟩
        · obtain ⟨i, hi⟩ := List.mem_iff_getElem?.1 hq
          rcases hget i q hi with ⟨_, rfl⟩ | ⟨hne, hq0⟩
          · exact hrow
          · exact (h2 q (List.mem_of_getElem? hq0)).only ko (hoth i q hq0 hne)
        · obtain ⟨i, hi⟩ := List.mem_iff_getElem?.1 hq
          rcases hget i q hi with ⟨_, rfl⟩ | ⟨hne, hq0⟩
          · rcases hbv b hb with h | h
            · exact h3 p hpm b h hm
            · have := hkv b hm; omega
          · exact h3 q (List.mem_of_getElem? hq0) b hb hm
        · rcases hget i q hq with ⟨rfl, rfl⟩ | ⟨hne1, hq1⟩
          · rcases hget k q' hq' with ⟨rfl, rfl⟩ | ⟨hne2, hq2⟩
            · exact absurd rfl hne
            · have h7 := h4 i k p q' hp hq2 hne
              refine ⟨by rw [← e1]; exact h7.1, fun b hb hm => ?_⟩
              rcases hbv b hb with h | h
              · exact h7.2 b h hm
              · have := ((h2 q' (List.mem_of_getElem? hq2)).lo b hm).2; omega
          · rcases hget k q' hq' with ⟨rfl, rfl⟩ | ⟨hne2, hq2⟩
            · have h7 := h4 i k q p hq1 hp hne
              refine ⟨by rw [← e1]; exact h7.1, fun b hb hm => ?_⟩
              rcases hbv b hm with h | h
              · exact h7.2 b hb h
              · have := ((h2 q (List.mem_of_getElem? hq1)).lo b hb).2; omega
            · exact h4 i k q q' hq1 hq2 hne
        · obtain ⟨i, hi⟩ := List.mem_iff_getElem?.1 hq
          rcases hget i q hi with ⟨_, rfl⟩ | ⟨hne, hq0⟩
          · have := (h5 p hpm).1; simp; omega
          · have := (h5 q (List.mem_of_getElem? hq0)).1; simp; omega
        · obtain ⟨i, hi⟩ := List.mem_iff_getElem?.1 hq
          rcases hget i q hi with ⟨_, rfl⟩ | ⟨hne, hq0⟩
          · rcases List.mem_append.1 ha with h | h
            · exact List.mem_append_left _ ((h5 p hpm).2 a h)
            · exact List.mem_append_right _ h
          · exact List.mem_append_left _ ((h5 q (List.mem_of_getElem? hq0)).2 a ha)
        · have hnew : (pk9 e, val, p.2.2 ++ [e]) ∈ ats.set j' (pk9 e, val, p.2.2 ++ [e]) := List.mem_of_getElem? (by rw [List.getElem?_set_self hjl])
          rcases List.mem_append.1 ha with h | h
          · obtain ⟨q, hq, hk, hm⟩ := h6 a h
            obtain ⟨i, hi⟩ := List.mem_iff_getElem?.1 hq
            by_cases hij : i = j'
            · subst hij
              rw [hp] at hi; cases hi
              exact ⟨_, hnew, by rw [← hk]; exact e1.symm, List.mem_append_left _ hm⟩
            · exact ⟨q, List.mem_of_getElem? (i := i) (by rw [List.getElem?_set_ne (fun h => hij h.symm)]; exact hi), hk, hm⟩
          · rw [List.mem_singleton.1 h]
            exact ⟨_, hnew, rfl, by simp⟩
      · exact absurd rfl (hno _ (List.mem_of_getElem? hj))
  · have hnok : ∀ p ∈ ats, p.1 ≠ pk9 e := fun p hp => hno (p.1, p.2.1) (by rw [h1]; exact List.mem_map.2 ⟨p, hp, rfl⟩)
    refine ⟨[], RowA.nil hL, Nat.zero_le _, ⟨fun he => by simp at he, fun he => ?_⟩, fun b hb => by simp [blk] at hb, fun w' val es2 M ko hM hrow hbv hput => ?_⟩
    · obtain ⟨p', hp', hk, hm⟩ := h6 e he
      exact absurd hk (hnok p' hp')
    · rcases hput with ⟨j', hj', hset⟩ | ⟨_, _, hset⟩
      · exact absurd rfl (hno _ (List.mem_of_getElem? hj'))
      · have hbv2 : ∀ b ∈ blk val, w.heap.size ≤ b := fun b hb => by
          rcases hbv b hb with h | h
          · simp [blk] at h
          · exact h
        have hget : ∀ i q, (ats ++ [(pk9 e, val, [e])])[i]? = some q → (i = ats.length ∧ q = (pk9 e, val, [e])) ∨ (i ≠ ats.length ∧ ats[i]? = some q) := fun i q hq => by
          by_cases hi : i < ats.length
          · rw [List.getElem?_append_left hi] at hq
            exact .inr ⟨by omega, hq⟩
          · rw [List.getElem?_append_right (by omega)] at hq
            have h0 : i - ats.length = 0 := by
              have := (List.getElem?_eq_some_iff.1 hq).1
              simp at this; omega
            rw [h0] at hq
            simp at hq
            exact .inl ⟨by omega, hq.symm⟩
        have hoth : ∀ q ∈ ats, ∀ b ∈ blk q.2.1, b ∉ M :: blk (.slice none 0 0) := fun q hq b hb hm => by
          simp [blk] at hm
          have := ((h2 q hq).lo b hb).1; omega
        refine ⟨ats ++ [(pk9 e, val, [e])], by rw [hset, h1, List.map_append]; rfl, fun q hq => ?_, fun q hq b hb hm => ?_, fun i k q q' hq hq' hne => ?_, fun q hq => ⟨?_, fun a ha => ?_⟩, fun a ha => ?_⟩
        · rcases List.mem_append.1 hq with h | h
          · exact (h2 q h).only ko (hoth q h)
          · rw [List.mem_singleton.1 h]; exact hrow
        · rcases List.mem_append.1 hq with h | h
          · exact h3 q h b hb hm
          · rw [List.mem_singleton.1 h] at hb
            have := hbv2 b hb; have := hkv b hm; omega
        · rcases hget i q hq with ⟨rfl, rfl⟩ | ⟨hne1, hq1⟩
          · rcases hget k q' hq' with ⟨rfl, rfl⟩ | ⟨hne2, hq2⟩
            · exact absurd rfl hne
            · have hm2 := List.mem_of_getElem? hq2
              refine ⟨fun h => hnok q' hm2 h.symm, fun b hb hm => ?_⟩
              have := hbv2 b hb; have := ((h2 q' hm2).lo b hm).2; omega
          · rcases hget k q' hq' with ⟨rfl, rfl⟩ | ⟨hne2, hq2⟩
            · have hm1 := List.mem_of_getElem? hq1
              refine ⟨hnok q hm1, fun b hb hm => ?_⟩
              have := hbv2 b hm; have := ((h2 q hm1).lo b hb).2; omega
            · exact h4 i k q q' hq1 hq2 hne
        · rcases List.mem_append.1 hq with h | h
          · have := (h5 q h).1; simp; omega
          · rw [List.mem_singleton.1 h]; simp
        · rcases List.mem_append.1 hq with h | h
          · exact List.mem_append_left _ ((h5 q h).2 a ha)
          · rw [List.mem_singleton.1 h] at ha
            exact List.mem_append_right _ ha
        · rcases List.mem_append.1 ha with h | h
          · obtain ⟨q, hq, hk, hm⟩ := h6 a h
            exact ⟨q, List.mem_append_left _ hq, hk, hm⟩
          · rw [List.mem_singleton.1 h]
            exact ⟨(pk9 e, val, [e]), by simp, rfl, by simp⟩
end Go.Proofs.Ytpedpbbiamhgdaa

/-! I9f -/
namespace Go.Proofs.Ytpedpbbiamhgdaa
open Go Go.Sort Go.RowKit
open Go.ChangeMaps (setBlock heap_setBlock_same heap_setBlock_other)
set_option linter.unusedVariables false

end Go.Proofs.Ytpedpbbiamhgdaa
