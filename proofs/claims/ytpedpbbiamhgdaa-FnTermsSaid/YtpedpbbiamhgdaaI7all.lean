/- Merged of I7st, I7turn, I7undo, I7plc, I7place, I7rep, I7fm, I7fw. -/
import Derived.Test.YtpedpbbiamhgdaaU8all
import Derived.Test.YtpedpbbiamhgdaaS7M
import Derived.Test.YtpedpbbiamhgdaaBase
import Derived.Defers
import Derived.Deep.CutRange
import Derived.Deep.RegionHeld3
import Derived.Test.YtpedpbbiamhgdaaI5copy
import Derived.Test.YtpedpbbiamhgdaaShelf
import Derived.Test.YtpedpbbiamhgdaaIrAll
import Derived.Test.YtpedpbbiamhgdaaLawK
/-! I7st -/
namespace Go.Proofs.Ytpedpbbiamhgdaa
open Go Go.Sort Go.RowKit
set_option linter.unusedVariables false

/-- m and mp go on from m0 and mp0: what has been mapped since is listed. -/
def Ext (m0 mp0 m mp : List Int) : Prop := m.length = m0.length ∧ ∃ L, mp = mp0 ++ L ∧ (∀ j : Nat, (j : Int) ∉ L → m.getD j 0 = m0.getD j 0) ∧ ∀ v ∈ L, ∃ k : Nat, v = (k : Int) ∧ k < m0.length ∧ m0.getD k 0 = -1000
theorem Ext.refl (m mp : List Int) : Ext m mp m mp := ⟨rfl, [], by simp, fun j _ => rfl, fun v hv => by cases hv⟩
theorem getD_set7 (m : List Int) (k j : Nat) (u : Int) (hk : k < m.length) : (m.set k u).getD j 0 = if j = k then u else m.getD j 0 := by
  rw [List.getD_eq_getElem?_getD, List.getD_eq_getElem?_getD, List.getElem?_set]
  by_cases h : k = j
  · subst h; simp [hk]
  · rw [if_neg h, if_neg (fun e => h e.symm)]
theorem Ext.set {m0 mp0 m mp : List Int} (h : Ext m0 mp0 m mp) {k : Nat} {u : Int} (hk : k < m.length) (h1 : m.getD k 0 = -1000) : Ext m0 mp0 (m.set k u) (mp ++ [(k : Int)]) := by
  obtain ⟨h2, L, rfl, h3, h4⟩ := h
  refine ⟨by simp [h2], L ++ [(k : Int)], by simp, fun j hj => ?_, fun v hv => ?_⟩
  · have hj1 : (j : Int) ∉ L := fun hm => hj (List.mem_append.2 (.inl hm))
    have hj2 : j ≠ k := fun e => hj (List.mem_append.2 (.inr (by simp [e])))
    rw [getD_set7 _ _ _ _ hk, if_neg hj2]; exact h3 j hj1
  · rcases List.mem_append.1 hv with hv | hv
    · exact h4 v hv
    · refine ⟨k, by simpa using hv, by omega, ?_⟩
      by_cases hm : (k : Int) ∈ L
      · obtain ⟨k', e, _, h6⟩ := h4 _ hm
        have : k = k' := by omega
        subst this; exact h6
      · rw [← h3 k hm]; exact h1
/-- The search's state lies in block X, its mapping in block MB. -/
structure MS (W0 w : World) (X MB : Nat) (av mv : Value) (m mp : List Int) : Prop where
  c0 : w.cell? ⟨X, 0, none⟩ = some av
  c1 : w.cell? ⟨X, 1, none⟩ = some (.slice (some ⟨MB, 0, none⟩) 20 20)
  c2 : w.cell? ⟨X, 2, none⟩ = some mv
  f2 : w.frozen? ⟨X, 2, none⟩ = false
  bm : Built .i64 3 W0 w (.slice (some ⟨MB, 0, none⟩) 20 20) m
  bp : Built .i64 3 W0 w mv mp
  n1 : X ≠ MB
  n2 : X ∉ blk mv
  n3 : MB ∉ blk mv
  lo : W0.heap.size ≤ X
  lt : X < w.heap.size
  len : m.length = 20
  ml : mp.length ≤ 1099511627775
  mi : ∀ x ∈ m, inI x
theorem built_onlyAt {W0 w w' : World} {v : Value} {l : List Int} {bs : List Nat} (h : Built .i64 3 W0 w v l) (ko : OnlyAt bs w w') (hW : ∀ b ∈ bs, W0.heap.size ≤ b) (hn : ∀ b ∈ blk v, b ∉ bs) : Built .i64 3 W0 w' v l := by
  refine ⟨⟨h.1.1, ?_⟩, OnlyAt.below h.2 ko hW⟩
  rcases h.1.2 with h1 | ⟨g, cap, cur, rfl, h1, hg, h2⟩
  · exact .inl h1
  · exact .inr ⟨g, cap, cur, rfl, h1, by rw [ko.block g (Array.getElem?_eq_some_iff.1 hg).1 (hn g (by simp [blk]))]; exact hg, h2⟩
theorem MS.mb {W0 w : World} {X MB : Nat} {av mv : Value} {m mp : List Int} (h : MS W0 w X MB av mv m mp) : W0.heap.size ≤ MB ∧ MB < w.heap.size := BuiltC.lt h.bm
theorem MS.below {W0 w : World} {X MB : Nat} {av mv : Value} {m mp : List Int} (h : MS W0 w X MB av mv m mp) : Below W0.heap.size W0 w := h.bm.below
theorem MS.blks {W0 w : World} {X MB : Nat} {av mv : Value} {m mp : List Int} (h : MS W0 w X MB av mv m mp) : ∀ b ∈ blk mv, W0.heap.size ≤ b ∧ b < w.heap.size := by
  intro b hb
  rcases BuiltC.form h.bp with ⟨rfl, _⟩ | ⟨g, cap, rfl, _⟩
  · simp [blk] at hb
  · simp [blk] at hb; subst hb; exact BuiltC.lt h.bp
/-- The state stands where nothing of its memory is written. -/
theorem MS.grow {W0 w w' : World} {X MB : Nat} {av mv : Value} {m mp : List Int} (h : MS W0 w X MB av mv m mp) (hb : Below w.heap.size w w') : MS W0 w' X MB av mv m mp :=
  ⟨cellk hb h.c0, cellk hb h.c1, cellk hb h.c2, frok hb h.c2 h.f2, h.bm.grow hb, h.bp.grow hb, h.n1, h.n2, h.n3, h.lo, Nat.lt_of_lt_of_le h.lt hb.size, h.len, h.ml, h.mi⟩
end Go.Proofs.Ytpedpbbiamhgdaa

/-! I7turn -/
namespace Go.Proofs.Ytpedpbbiamhgdaa
open Go Go.Sort Go.RowKit
set_option linter.unusedVariables false

theorem apM_set {m : List Int} {k : Nat} {u : Int} (hk : k < m.length) (hu : u ≠ -1000) : apM (m.set k u) (k : Int) = u := by
  rw [apM_at (by simpa using hk), getD_set7 _ _ _ _ hk, if_pos rfl, if_neg hu]
/-- The state behind: the mapping's cell k set, k listed. -/
theorem MS.step {W0 w w2 w3 : World} {X MB : Nat} {av mv v' : Value} {m mp : List Int} (h : MS W0 w X MB av mv m mp) {k : Nat} {u : Int} (hk : k < 20) (hui : inI u)
    (hB : Built .i64 3 W0 w2 v' (mp ++ [(k : Int)])) (ko : OnlyAt (blk mv) (w.setCell ⟨MB, k, none⟩ (.int .i64 u)) w2) (hbl : ∀ b ∈ blk v', b ∈ blk mv ∨ (w.setCell ⟨MB, k, none⟩ (.int .i64 u)).heap.size ≤ b) (hml : mp.length + 1 ≤ 1000000) (e3 : w3 = w2.setCell ⟨X, 2, none⟩ v') :
    MS W0 w3 X MB av v' (m.set k u) (mp ++ [(k : Int)]) := by
  subst e3
  obtain ⟨hm1, hm2⟩ := h.mb
  have hlt := h.lt
  have hsz : (w.setCell ⟨MB, k, none⟩ (.int .i64 u)).heap.size = w.heap.size := by simp [World.setCell]
  have hsz2 := ko.size
  rw [hsz] at hsz2 hbl
  have o1 : OnlyAt [MB] w (w.setCell ⟨MB, k, none⟩ (.int .i64 u)) := OnlyAt.setCell _ _ _ _
  have o3 : OnlyAt [X] w2 (w2.setCell ⟨X, 2, none⟩ v') := OnlyAt.setCell _ _ _ _
  have x0 := ko.cell h.n2 (o1.cell (by simpa using h.n1) h.c0)
  have x1 := ko.cell h.n2 (o1.cell (by simpa using h.n1) h.c1)
  have x2 := ko.cell h.n2 (o1.cell (by simpa using h.n1) h.c2)
  have xf := ko.frozen (by rw [hsz]; exact hlt) h.n2 (o1.frozen hlt (by simpa using h.n1) h.f2)
  have bm1 : Built .i64 3 W0 (w.setCell ⟨MB, k, none⟩ (.int .i64 u)) (.slice (some ⟨MB, 0, none⟩) 20 20) (m.set k u) := h.bm.store h.len.symm k u
  have bm2 := built_onlyAt bm1 ko (fun b hb => (h.blks b hb).1) (fun b hb => by simp [blk] at hb; subst hb; exact h.n3)
  have hX : ∀ b ∈ blk v', b ≠ X := fun b hb e => by
    subst e
    rcases hbl _ hb with h1 | h1
    · exact h.n2 h1
    · omega
  have hM : ∀ b ∈ blk v', b ≠ MB := fun b hb e => by
    subst e
    rcases hbl _ hb with h1 | h1
    · exact h.n3 h1
    · omega
  refine ⟨?_, ?_, World.cell?_setCell_same _ _ _ x2, by rw [World.frozen?_setCell]; exact xf, built_onlyAt bm2 o3 (fun b hb => by simp at hb; subst hb; exact h.lo) (fun b hb => by simp [blk] at hb; subst hb; simpa using fun e => h.n1 e.symm), built_onlyAt hB o3 (fun b hb => by simp at hb; subst hb; exact h.lo) (fun b hb => by simpa using hX b hb), h.n1, fun hm => hX _ hm rfl, fun hm => hM _ hm rfl, h.lo, Nat.lt_of_lt_of_le hlt (Nat.le_trans hsz2 o3.size), by simpa using h.len, by simp; omega, fun x hx => ?_⟩
  · exact (World.cell?_setCell_other _ _ _ _ (fun e => by cases e)).trans x0
  · exact (World.cell?_setCell_other _ _ _ _ (fun e => by cases e)).trans x1
  · rcases List.mem_or_eq_of_mem_set hx with h1 | h1
    · exact h.mi x h1
    · rw [h1]; exact hui

end Go.Proofs.Ytpedpbbiamhgdaa

/-! I7undo -/
namespace Go.Proofs.Ytpedpbbiamhgdaa
open Go Go.Sort Go.RowKit
set_option linter.unusedVariables false

def undoL (m L : List Int) : List Int := L.foldl (fun m v => m.set v.toNat (-1000)) m
theorem undoL_len (L m : List Int) : (undoL m L).length = m.length := by
  unfold undoL
  induction L generalizing m with
  | nil => rfl
  | cons v L ih => rw [List.foldl_cons, ih]; simp
theorem undoL_take {m L : List Int} {j : Nat} (h : j < L.length) : undoL m (L.take (j + 1)) = (undoL m (L.take j)).set (L.getD j 0).toNat (-1000) := by
  unfold undoL
  rw [List.take_succ_eq_append_getElem h, List.foldl_append]
  simp [List.getD, List.getElem?_eq_getElem h]
theorem undoL_at (L m : List Int) (hk : ∀ v ∈ L, ∃ k : Nat, v = (k : Int) ∧ k < m.length) (j : Nat) : (undoL m L).getD j 0 = if (j : Int) ∈ L then -1000 else m.getD j 0 := by
  unfold undoL
  induction L generalizing m with
  | nil => simp
  | cons v L ih =>
    obtain ⟨k, rfl, hkl⟩ := hk v (List.mem_cons_self ..)
    rw [List.foldl_cons, ih _ (fun x hx => by obtain ⟨k', e, h⟩ := hk x (List.mem_cons_of_mem _ hx); exact ⟨k', e, by simpa using h⟩), Int.toNat_natCast]
    by_cases h1 : (j : Int) ∈ L
    · rw [if_pos h1, if_pos (List.mem_cons_of_mem _ h1)]
    · rw [if_neg h1, getD_set7 _ _ _ _ hkl]
      by_cases h2 : j = k
      · subst h2; rw [if_pos rfl, if_pos (List.mem_cons_self ..)]
      · rw [if_neg h2, if_neg (fun hm => by rcases List.mem_cons.1 hm with h | h; (· omega); exact h1 h)]
theorem ext_getD7 {l l' : List Int} (hl : l.length = l'.length) (h : ∀ j : Nat, l.getD j 0 = l'.getD j 0) : l = l' := by
  refine List.ext_getElem hl (fun j h1 h2 => ?_)
  have := h j
  rw [List.getD_eq_getElem?_getD, List.getD_eq_getElem?_getD, List.getElem?_eq_getElem h1, List.getElem?_eq_getElem h2] at this
  exact this
theorem Ext.undo {m0 mp0 m mp : List Int} (h : Ext m0 mp0 m mp) : ∃ L, mp = mp0 ++ L ∧ undoL m L = m0 ∧ (∀ v ∈ L, ∃ k : Nat, v = (k : Int) ∧ k < m.length) ∧ m.length = m0.length := by
  obtain ⟨h1, L, h2, h3, h4⟩ := h
  have hk : ∀ v ∈ L, ∃ k : Nat, v = (k : Int) ∧ k < m.length := fun v hv => by obtain ⟨k, e, h, _⟩ := h4 v hv; exact ⟨k, e, by omega⟩
  refine ⟨L, h2, ext_getD7 (by rw [undoL_len, h1]) (fun j => ?_), hk, h1⟩
  rw [undoL_at L m hk]
  by_cases hj : (j : Int) ∈ L
  · rw [if_pos hj]
    obtain ⟨k, e, _, h6⟩ := h4 _ hj
    have : j = k := by omega
    subst this; exact h6.symm
  · rw [if_neg hj]; exact h3 j hj
/-- A cell of the mapping is written. -/
theorem MS.put {W0 w : World} {X MB : Nat} {av mv : Value} {m mp : List Int} (h : MS W0 w X MB av mv m mp) {k : Nat} {u : Int} (hk : k < 20) (hui : inI u) : MS W0 (w.setCell ⟨MB, k, none⟩ (.int .i64 u)) X MB av mv (m.set k u) mp := by
  have o1 : OnlyAt [MB] w (w.setCell ⟨MB, k, none⟩ (.int .i64 u)) := OnlyAt.setCell _ _ _ _
  refine ⟨o1.cell (by simpa using h.n1) h.c0, o1.cell (by simpa using h.n1) h.c1, o1.cell (by simpa using h.n1) h.c2, o1.frozen h.lt (by simpa using h.n1) h.f2, h.bm.store h.len.symm k u, built_onlyAt h.bp o1 (fun b hb => by simp at hb; subst hb; exact h.mb.1) (fun b hb => by simp; intro e; subst e; exact h.n3 hb), h.n1, h.n2, h.n3, h.lo, Nat.lt_of_lt_of_le h.lt o1.size, by simpa using h.len, h.ml, fun x hx => ?_⟩
  rcases List.mem_or_eq_of_mem_set hx with h1 | h1
  · exact h.mi x h1
  · rw [h1]; exact hui
theorem shortC7 {E : TypeId} {size : Nat} {W w : World} {g n cap m : Nat} {cs : List Value} (h : BuiltC E size W w (.slice (some ⟨g, 0, none⟩) n cap) n cs) (hm : m ≤ n) : BuiltC E size W w (.slice (some ⟨g, 0, none⟩) m cap) m (cs.take (m * size)) := by
  have hlen := h.len
  have hle : m * size ≤ n * size := Nat.mul_le_mul_right _ hm
  rcases h.1.2 with ⟨h1, _⟩ | ⟨g', cap', cur, he, hbase, hg, hc1, hc2, hc3, hc4⟩
  · cases h1
  · cases he
    refine ⟨⟨by simp; omega, .inr ⟨g, cap, cur, rfl, hbase, hg, by omega, hc2, hc3, ?_⟩⟩, h.2⟩
    rw [← hc4, List.take_take, Nat.min_eq_left hle]
theorem built_short {W0 w : World} {g cap c : Nat} {l : List Int} (h : Built .i64 3 W0 w (.slice (some ⟨g, 0, none⟩) l.length cap) l) (hc : c ≤ l.length) : Built .i64 3 W0 w (.slice (some ⟨g, 0, none⟩) c cap) (l.take c) := by
  have h2 := shortC7 (m := c) h hc
  unfold Built
  rw [List.length_take, Nat.min_eq_left hc, List.map_take]
  rw [Nat.mul_one] at h2
  exact h2
/-- The list of the mapped is exchanged. -/
theorem MS.remap {W0 w : World} {X MB : Nat} {av mv mv0 : Value} {m mp mp0 : List Int} (h : MS W0 w X MB av mv m mp) (hB : Built .i64 3 W0 w mv0 mp0) (hs : ∀ b ∈ blk mv0, b ∈ blk mv) (hl : mp0.length ≤ 1099511627775) : MS W0 (w.setCell ⟨X, 2, none⟩ mv0) X MB av mv0 m mp0 := by
  have o1 : OnlyAt [X] w (w.setCell ⟨X, 2, none⟩ mv0) := OnlyAt.setCell _ _ _ _
  refine ⟨?_, ?_, World.cell?_setCell_same _ _ _ h.c2, by rw [World.frozen?_setCell]; exact h.f2, built_onlyAt h.bm o1 (fun b hb => by simp at hb; subst hb; exact h.lo) (fun b hb => by simp [blk] at hb; subst hb; simpa using fun e => h.n1 e.symm), built_onlyAt hB o1 (fun b hb => by simp at hb; subst hb; exact h.lo) (fun b hb => by simp; intro e; subst e; exact h.n2 (hs _ hb)), h.n1, fun hm => h.n2 (hs _ hm), fun hm => h.n3 (hs _ hm), h.lo, Nat.lt_of_lt_of_le h.lt o1.size, h.len, hl, h.mi⟩
  · exact (World.cell?_setCell_other _ _ _ _ (fun e => by cases e)).trans h.c0
  · exact (World.cell?_setCell_other _ _ _ _ (fun e => by cases e)).trans h.c1

end Go.Proofs.Ytpedpbbiamhgdaa

/-! I7plc -/
namespace Go.Proofs.Ytpedpbbiamhgdaa
open Go Go.Sort Go.RowKit
set_option linter.unusedVariables false

/-- What a step of the search has found, in memory of its own. -/
def FoundO (w w' : World) (o : Option (List Int)) (yv : Value) (b : Bool) : Prop := match o with | some y => b = true ∧ ∃ bs, OInts w' yv y bs ∧ Fresh w w' bs | none => b = false ∧ yv = .slice none 0 0
theorem FoundO.undone {w w1 w2 w3 : World} {o : Option (List Int)} {yv : Value} {b : Bool} {X MB : Nat} (h : FoundO w1 w2 o yv b) (h1 : w.heap.size ≤ w1.heap.size) (hX : X < w1.heap.size) (hM : MB < w1.heap.size) (ko : OnlyAt [X, MB] w2 w3) : FoundO w w3 o yv b := by
  unfold FoundO at h ⊢
  cases o with
  | none => exact h
  | some y =>
    obtain ⟨hb, bs, ho, hf⟩ := h
    refine ⟨hb, bs, ho.onlyAt ko (fun b hb hm => ?_), hf.1, fun b hb => ⟨Nat.le_trans h1 (hf.2 b hb).1, Nat.lt_of_lt_of_le (hf.2 b hb).2 ko.size⟩⟩
    have := hf.lo b hb
    simp at hm
    omega
/-- What a step of the search leaves: the state as it was, and what was found. -/
def Placed (W0 w : World) (X MB : Nat) (av : Value) (m mp : List Int) (o : Option (List Int)) (e : Ending) (w' : World) : Prop :=
  ∃ yv b mv', e = .returned (.tuple #[yv, .bool b]) ∧ MS W0 w' X MB av mv' m mp ∧ FoundO w w' o yv b ∧ w.heap.size ≤ w'.heap.size
theorem MS.form {W0 w : World} {X MB : Nat} {av mv : Value} {m mp : List Int} (h : MS W0 w X MB av mv m mp) : ∃ A C, mv = .slice A mp.length C := by
  rcases BuiltC.form h.bp with ⟨rfl, h0⟩ | ⟨g, cap, h1, _⟩
  · exact ⟨none, 0, by rw [h0]⟩
  · exact ⟨_, _, h1⟩

end Go.Proofs.Ytpedpbbiamhgdaa

/-! I7place -/
namespace Go.Proofs.Ytpedpbbiamhgdaa
open Go Go.Sort Go.RowKit
set_option linter.unusedVariables false

theorem FoundO.wide {w w1 w2 : World} {o : Option (List Int)} {yv : Value} {b : Bool} (h : FoundO w1 w2 o yv b) (h1 : w.heap.size ≤ w1.heap.size) : FoundO w w2 o yv b := by
  unfold FoundO at h ⊢
  cases o with
  | none => exact h
  | some y =>
    obtain ⟨hb, bs, ho, hf⟩ := h
    exact ⟨hb, bs, ho, hf.1, fun b hb => ⟨Nat.le_trans h1 (hf.2 b hb).1, (hf.2 b hb).2⟩⟩

end Go.Proofs.Ytpedpbbiamhgdaa

/-! I7rep -/
namespace Go.Proofs.Ytpedpbbiamhgdaa
open Go Go.Sort Go.RowKit Go.Shelf
set_option linter.unusedVariables false

def repL (n : Nat) : List Int := List.replicate n (-1000) ++ List.replicate (20 - n) 0
theorem repL_len {n : Nat} (h : n ≤ 20) : (repL n).length = 20 := by unfold repL; simp; omega
theorem repL_at {n j : Nat} (h : j < n) : (repL n).getD j 0 = -1000 := by
  unfold repL
  rw [List.getD_eq_getElem?_getD, List.getElem?_append_left (by simpa using h), List.getElem?_replicate, if_pos h]; rfl
theorem splice_rep {n m : Nat} (h : n + m ≤ 20) : splice ((repL n).map (Value.int .i64)) n (List.replicate m (Value.int .i64 (-1000))) = (repL (n + m)).map (Value.int .i64) := by
  unfold splice repL
  simp only [List.map_append, List.map_replicate, List.length_replicate]
  rw [List.take_append_of_le_length (by simp), List.take_of_length_le (by simp), List.drop_append, List.drop_of_length_le (by simp)]
  simp only [List.length_replicate, List.nil_append, List.drop_replicate]
  rw [← List.append_assoc, List.replicate_append_replicate, show 20 - n - (n + m - n) = 20 - (n + m) by omega]
theorem step_copy7 {P : Program} {ops : Array Oper} {o : Oper} {a : Act} {w w' : World} {K : Act → World → Prop} {Q : Exit → Act → World → Prop} {F : Prop} {v dv sv : Value} (hgd : o.guard = none) (d s : Operand) (dT sT : TypeId)
    (ho : o.op = .call { callee := .builtin .copy, args := #[d, s], argTypes := #[dT, sT] }) (hd : a.eval d = dv) (hs : a.eval s = sv) (hr : (Builtin.copy_ #[dT, sT] o.type #[dv, sv]).run P w = .ok v w') (hK : K (a.put o.dst v) w') :
    if Region.wanted o (yielded ops a.tmps) = true then Oper.wp P o a w K Q else F := by
  have hw : Region.wanted o (yielded ops a.tmps) = true := by simp [Region.wanted, hgd]
  rw [if_pos hw]
  unfold Oper.wp
  simp [execOp, ho, resolve, invoke, builtin, hd, hs, hr, Result.andThen]
  exact hK
theorem wpList_copy7 {P : Program} {ops : Array Oper} {rest : List Oper} {o : Oper} {a : Act} {w w' : World} {Q : Exit → Act → World → Prop} {v dv sv : Value} (hgd : o.guard = none) (d s : Operand) (dT sT : TypeId)
    (ho : o.op = .call { callee := .builtin .copy, args := #[d, s], argTypes := #[dT, sT] }) (hd : a.eval d = dv) (hs : a.eval s = sv) (hr : (Builtin.copy_ #[dT, sT] o.type #[dv, sv]).run P w = .ok v w') (hK : wpList P ops Q rest (a.put o.dst v) w') :
    wpList P ops Q (o :: rest) a w := by
  refine wpList_plain hgd fun K hK' => ?_
  unfold Oper.wp
  simp [execOp, ho, resolve, invoke, builtin, hd, hs, hr, Result.andThen]
  exact hK' _ _ hK
/-- A copy of m times the number into the row, behind its first n. -/
theorem copy_rep {P : Program} (hu : P.underlying 27 = some (.slice 3)) (hs : (P.info? 3).map (·.size) = some 1) {w0 w : World} {g n m dL dC sL sC : Nat} {p : Addr} (ty : TypeId) (h : Built .i64 3 w0 w (.slice (some ⟨g, 0, none⟩) 20 20) (repL n)) (hnm : n + m ≤ 20)
    (hmin : Nat.min sL dL = m) (hsrc : ∀ j, j < m → w.cell? (p.add j) = some (.int .i64 (-1000))) :
    ∃ w', (Builtin.copy_ #[27, 27] ty #[.slice (some ⟨g, n, none⟩) dL dC, .slice (some p) sL sC]).run P w = .ok (goInt m) w' ∧ Built .i64 3 w0 w' (.slice (some ⟨g, 0, none⟩) 20 20) (repL (n + m)) := by
  have hl := repL_len (n := n) (by omega)
  have hB : BuiltC 3 1 w0 w (.slice (some ⟨g, 0, none⟩) 20 20) 20 ((repL n).map (Value.int .i64)) := by have := h; unfold Built at this; rw [hl] at this; exact this
  obtain ⟨cur, hg, htk, hle, hsp⟩ := hB.splice
  have hsp2 := hsp n (List.replicate m (Value.int .i64 (-1000))) (by simp; omega)
  rw [splice_rep hnm] at hsp2
  refine ⟨_, run_copy_rowC w 27 27 ty 3 1 m g n dL dC p sL sC cur 3 (List.replicate m (Value.int .i64 (-1000))) hu hs hg hmin (by simp) (fun j v hv => ?_) (by simp; omega) (fun v hv => by rw [List.eq_of_mem_replicate hv]; rfl), ?_⟩
  · rw [List.getElem?_replicate] at hv
    split at hv
    · rename_i hj; cases hv; exact hsrc j hj
    · cases hv
  · unfold Built; rw [repL_len hnm]; exact hsp2

end Go.Proofs.Ytpedpbbiamhgdaa

/-! I7fm -/
namespace Go.Proofs.Ytpedpbbiamhgdaa
open Go Go.Sort Go.RowKit
set_option linter.unusedVariables false

theorem built_rebase {W w1 w : World} {v : Value} {l : List Int} (h : Built .i64 3 w1 w v l) (hb : Below W.heap.size W w1) : Built .i64 3 W w v l := by
  refine ⟨⟨h.1.1, ?_⟩, bnext hb h.2⟩
  rcases h.1.2 with h1 | ⟨g, cap, cur, rfl, h1, hg, h2⟩
  · exact .inl h1
  · exact .inr ⟨g, cap, cur, rfl, Nat.le_trans hb.size h1, hg, h2⟩
theorem FoundO.below {w w1 w2 w3 : World} {o : Option (List Int)} {yv : Value} {b : Bool} (h : FoundO w1 w2 o yv b) (h1 : w.heap.size ≤ w1.heap.size) : FoundO w w2 o yv b := h.wide h1

end Go.Proofs.Ytpedpbbiamhgdaa

/-! I7fw -/
namespace Go.Proofs.Ytpedpbbiamhgdaa
open Go Go.Sort Go.RowKit
set_option linter.unusedVariables false

theorem sum_le3 : ∀ {l : List AtomD}, (∀ a ∈ l, a.2.length ≤ 3) → sumArgs l ≤ 3 * l.length
  | [], _ => by simp [sumArgs]
  | a :: l, h => by
    have h1 := sum_le3 (l := l) (fun x hx => h x (List.mem_cons_of_mem _ hx))
    have h2 := h a (List.mem_cons_self ..)
    have h3 : sumArgs (a :: l) = a.2.length + sumArgs l := by unfold sumArgs; simp
    rw [h3, List.length_cons]; omega
theorem terms_3 {l : List Int} (h : termsB l = true) : l.length ≤ 3 := by
  unfold termsB at h
  rw [Bool.and_eq_true] at h
  exact of_decide_eq_true h.2
theorem f7_sum {s : List Int} {d : QueryD} (h : fineB s d 4 = true) : d.1.length + sumArgs d.2 ≤ 1000000 := by
  unfold fineB at h
  simp only [Bool.and_eq_true] at h
  have h1 := terms_3 h.2.1
  have h2 : (1 : Int) ≤ d.2.length ∧ (d.2.length : Int) ≤ 4 := of_decide_eq_true h.2.2.1
  have h3 := sum_le3 (l := d.2) (fun a ha => by
    have h4 := List.all_eq_true.1 h.2.2.2.1 a ha
    unfold isAtomB at h4
    simp only [Bool.and_eq_true] at h4
    exact terms_3 h4.2)
  omega
theorem oints_nil (w : World) : OInts w (.slice none 0 0) [] [] := ⟨Ints.nil w, .inl ⟨none, 0, rfl, rfl⟩⟩
theorem fresh_nil (w w' : World) : Fresh w w' [] := ⟨List.Pairwise.nil, fun b hb => by cases hb⟩

theorem fmN_m (s : List Int) (f t : QueryD) : mIntS ((fmN s f t).getD []) ≤ 1048576 := by
  unfold mIntS
  cases h : fmN s f t with
  | none => simp
  | some y =>
    have h1 : findN f t = some y := by
      unfold fmN at h
      split at h
      · exact h
      · cases h
    have := findN_len h1
    simp [this]
end Go.Proofs.Ytpedpbbiamhgdaa
