/- Own words over any program: a slice of int that reads as a list of numbers in a world ('Ints'), and what keeps it. -/
import Derived.Test.YtpedpbbiamhgdaaOwn
namespace Go.Proofs.Ytpedpbbiamhgdaa
open Go.RowKit
set_option linter.unusedVariables false

def inI (x : Int) : Prop := -9223372036854775808 ≤ x ∧ x ≤ 9223372036854775807
/-- The slice v reads as the numbers l in the world w. -/
def Ints (w : World) (v : Value) (l : List Int) : Prop :=
  (∀ x ∈ l, inI x) ∧ ((∃ a cap, v = .slice a 0 cap ∧ cap ≤ maxLen ∧ l = []) ∨
    ∃ b off len cap, v = .slice (some ⟨b, off, none⟩) len cap ∧ l.length = len ∧ len ≤ cap ∧ cap ≤ maxLen ∧ b < w.heap.size ∧ ∀ j, j < len → w.cell? ⟨b, off + j, none⟩ = some (.int .i64 (l.getD j 0)))

theorem Ints.below {w w' : World} {v : Value} {l : List Int} (h : Ints w v l) (hb : Below w.heap.size w w') : Ints w' v l := by
  refine ⟨h.1, ?_⟩
  rcases h.2 with h | ⟨b, off, len, cap, hv, hl, h1, h2, hlt, hc⟩
  · exact .inl h
  · exact .inr ⟨b, off, len, cap, hv, hl, h1, h2, Nat.lt_of_lt_of_le hlt hb.size, fun j hj => by rw [hb.cell (p := ⟨b, off + j, none⟩) hlt]; exact hc j hj⟩
theorem Ints.len_le {w : World} {v : Value} {l : List Int} (h : Ints w v l) : l.length ≤ maxLen := by
  rcases h.2 with ⟨_, _, _, _, rfl⟩ | ⟨b, off, len, cap, hv, hl, h1, h2, hlt, hc⟩
  · exact Nat.zero_le _
  · omega
theorem Ints.form {w : World} {v : Value} {l : List Int} (h : Ints w v l) : ∃ a cap, v = .slice a l.length cap := by
  rcases h.2 with ⟨a, cap, rfl, _, rfl⟩ | ⟨b, off, len, cap, rfl, rfl, _⟩
  · exact ⟨a, cap, rfl⟩
  · exact ⟨_, cap, rfl⟩
theorem Ints.shape {w : World} {v : Value} {l : List Int} (h : Ints w v l) : ∃ a n cap, v = .slice a n cap := by
  obtain ⟨a, cap, h⟩ := h.form; exact ⟨a, _, cap, h⟩
/-- A slice of int, opened: empty or a row of cells. -/
theorem Ints.cases {w : World} {v : Value} {l : List Int} (h : Ints w v l) : ∃ a n cap, v = .slice a n cap ∧ l.length = n ∧ n ≤ cap ∧ cap ≤ maxLen ∧ (0 < n → ∃ b off, a = some ⟨b, off, none⟩ ∧ b < w.heap.size ∧ ∀ j, j < n → w.cell? ⟨b, off + j, none⟩ = some (.int .i64 (l.getD j 0))) := by
  rcases h.2 with ⟨a, cap, rfl, hm, rfl⟩ | ⟨b, off, len, cap, rfl, rfl, h1, h2, h3, h4⟩
  · exact ⟨a, 0, cap, rfl, rfl, Nat.zero_le _, hm, fun h => by omega⟩
  · exact ⟨_, _, cap, rfl, rfl, h1, h2, fun _ => ⟨b, off, rfl, h3, h4⟩⟩

theorem Ints.nil (w : World) : Ints w (.slice none 0 0) [] := ⟨fun x h => by simp at h, .inl ⟨none, 0, rfl, Nat.zero_le _, rfl⟩⟩
theorem inI_getD {l : List Int} (h : ∀ x ∈ l, inI x) (j : Nat) : inI (l.getD j 0) := by
  rw [List.getD_eq_getElem?_getD]
  rcases Nat.lt_or_ge j l.length with hj | hj
  · rw [List.getElem?_eq_getElem hj]; exact h _ (List.getElem_mem hj)
  · rw [List.getElem?_eq_none hj]; exact ⟨by decide, by decide⟩
theorem Ints.ofBuilt {E : TypeId} {w0 w : World} {v : Value} {l : List Int} (h : Built .i64 E w0 w v l) (hi : ∀ x ∈ l, inI x) : Ints w v l := by
  refine ⟨hi, ?_⟩
  rcases h.1.2 with ⟨rfl, hn⟩ | ⟨g, cap, cur, rfl, hb, hg, hlc, hcm, hsz, htk⟩
  · exact .inl ⟨none, 0, rfl, Nat.zero_le _, List.length_eq_zero_iff.1 hn⟩
  · refine .inr ⟨g, 0, _, cap, rfl, rfl, hlc, hcm, ?_, fun j hj => ?_⟩
    · rcases Nat.lt_or_ge g w.heap.size with h3 | h3
      · exact h3
      · rw [Array.getElem?_eq_none h3] at hg; cases hg
    · have := World.ownsRow.cellAt h.1 j (by simpa using hj)
      rw [Nat.zero_add, this]
      simp [List.getD, List.getElem?_eq_getElem hj]

theorem ret_n {a b : Int} (h : a = b) : Ending.returned (.int .i64 a) = .returned (.int .i64 b) := by rw [h]
theorem ret_b {a b : Bool} (h : a = b) : Ending.returned (.bool a) = .returned (.bool b) := by rw [h]
/-- A slice that lies in a block from base on (or nowhere). -/
def NewV (base : Nat) : Value → Prop | .slice (some a) _ _ => base ≤ a.block | _ => True
theorem NewV.mono {B B' : Nat} {v : Value} (h : NewV B v) (hb : B' ≤ B) : NewV B' v := by
  cases v with
  | slice a n c =>
    cases a with
    | none => trivial
    | some a => exact Nat.le_trans hb h
  | _ => trivial
theorem NewV.ofBuilt {k : IntKind} {E : TypeId} {w0 w : World} {v : Value} {l : List Int} (h : Built k E w0 w v l) : NewV w0.heap.size v := by
  rcases h.1.2 with ⟨rfl, hn⟩ | ⟨g, cap, cur, rfl, hb, _⟩
  · trivial
  · exact hb
theorem Ints.setCell {w : World} {v : Value} {l : List Int} {B : Nat} (h : Ints w v l) (hn : NewV B v) (p : Addr) (u : Value) (hp : p.block < B) : Ints (w.setCell p u) v l := by
  refine ⟨h.1, ?_⟩
  rcases h.2 with h | ⟨b, off, len, cap, rfl, hl, h1, h2, hlt, hc⟩
  · exact .inl h
  · refine .inr ⟨b, off, len, cap, rfl, hl, h1, h2, by simpa [World.setCell] using hlt, fun j hj => ?_⟩
    rw [World.cell?_of_block (w := w) (Below.heap_setCell w p u b (by have : B ≤ b := hn; omega))]
    exact hc j hj
def GaveInt (w : World) (n : Int) (e : Ending) (w' : World) : Prop := e = .returned (.int .i64 n) ∧ Below w.heap.size w w'
def GaveBool (w : World) (b : Bool) (e : Ending) (w' : World) : Prop := e = .returned (.bool b) ∧ Below w.heap.size w w'
/-- A call that answers a value of which R holds; nothing that was there has turned. -/
def GaveD (R : World → Value → Prop) (w : World) (e : Ending) (w' : World) : Prop := ∃ v, e = .returned v ∧ R w' v ∧ Below w.heap.size w w'
def GaveV (v : Value) (w : World) (e : Ending) (w' : World) : Prop := e = .returned v ∧ Below w.heap.size w w'
theorem below_alloc (w : World) (o : Obj) : Below w.heap.size w (w.alloc o) := (Below.refl _ _).alloc (Nat.le_refl _) _

theorem cellk {w w' : World} {b o : Nat} {v : Value} (hb : Below w.heap.size w w') (h : w.cell? ⟨b, o, none⟩ = some v) : w'.cell? ⟨b, o, none⟩ = some v := by
  rw [hb.cell (p := ⟨b, o, none⟩) (World.block_lt_of_cell? w _ h)]; exact h
theorem frok {w w' : World} {b o : Nat} {v : Value} (hb : Below w.heap.size w w') (hc : w.cell? ⟨b, o, none⟩ = some v) (hf : w.frozen? ⟨b, o, none⟩ = false) : w'.frozen? ⟨b, o, none⟩ = false := by
  rw [hb.frozen (p := ⟨b, o, none⟩) (World.block_lt_of_cell? w _ hc)]; exact hf
theorem bcell {W w1 : World} (hb : Below W.heap.size W w1) : (∀ b o, b < W.heap.size → w1.cell? ⟨b, o, none⟩ = W.cell? ⟨b, o, none⟩) ∧ (∀ b o, b < W.heap.size → w1.frozen? ⟨b, o, none⟩ = W.frozen? ⟨b, o, none⟩) :=
  ⟨fun b o h => hb.cell (p := ⟨b, o, none⟩) h, fun b o h => hb.frozen (p := ⟨b, o, none⟩) h⟩
theorem bnext {w0 w w' : World} (h : Below w0.heap.size w0 w) (hb : Below w.heap.size w w') : Below w0.heap.size w0 w' := h.trans (hb.mono h.size)
end Go.Proofs.Ytpedpbbiamhgdaa
