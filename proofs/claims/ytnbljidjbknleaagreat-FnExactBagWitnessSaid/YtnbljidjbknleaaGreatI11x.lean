/- Merged of M11, I11b, I11c, I11d, I11e, I11f, I11g, I11h. -/
import Derived.Test.YtnbljidjbknleaaGreatM8
import Derived.Test.YtnbljidjbknleaaGreatS11x
import Derived.Test.YtnbljidjbknleaaGreatI5copy
import Derived.Test.YtnbljidjbknleaaGreatI5fl
import Derived.Test.YtnbljidjbknleaaGreatI8all
import Derived.Test.YtnbljidjbknleaaGreatIvars
import Derived.Lib.AppendZerosOnto
import Derived.Test.YtnbljidjbknleaaGreatI6cma
import Derived.Test.YtnbljidjbknleaaGreatM9k
import Derived.Deep.RegionHeld3
import Derived.Maps.OwnSet
/-! M11 -/
namespace Go.Proofs.YtnbljidjbknleaaGreat
open Go.RowKit
set_option linter.unusedVariables false

/-- The argument lists that splitFact has made behind place i. -/
def spL (v : Int) (a : List Int) : Nat → List (List Int)
  | 0 => [a]
  | i + 1 => if a.getD i 0 = v then spL v a i ++ (spL v a i).map (fun l => l.set i 99) else spL v a i
theorem spL_len (v : Int) (a : List Int) : ∀ i, (spL v a i).length ≤ 2 ^ i
  | 0 => by simp [spL]
  | i + 1 => by
    have h := spL_len v a i
    unfold spL
    split
    · rw [List.length_append, List.length_map, Nat.pow_succ]; omega
    · rw [Nat.pow_succ]; omega
theorem spL_pos (v : Int) (a : List Int) : ∀ i, 1 ≤ (spL v a i).length
  | 0 => by simp [spL]
  | i + 1 => by
    have h := spL_pos v a i
    unfold spL
    split
    · rw [List.length_append]; omega
    · exact h
theorem spL_all (v : Int) (a : List Int) : ∀ i, ∀ x ∈ spL v a i, x.length = a.length
  | 0 => by simp [spL]
  | i + 1 => by
    have h := spL_all v a i
    unfold spL
    split
    · intro x hx
      rcases List.mem_append.1 hx with hx | hx
      · exact h x hx
      · obtain ⟨y, hy, rfl⟩ := List.mem_map.1 hx
        rw [List.length_set]; exact h y hy
    · exact h
theorem spL_inI {v : Int} {a : List Int} (ha : ∀ x ∈ a, inI x) : ∀ i, ∀ l ∈ spL v a i, ∀ x ∈ l, inI x
  | 0 => by simp [spL]; exact ha
  | i + 1 => by
    have h := spL_inI (v := v) ha i
    unfold spL
    split
    · intro l hl
      rcases List.mem_append.1 hl with hl | hl
      · exact h l hl
      · obtain ⟨y, hy, rfl⟩ := List.mem_map.1 hl
        intro x hx
        rcases List.mem_or_eq_of_mem_set hx with h1 | h1
        · exact h y hy x h1
        · rw [h1]; unfold inI; omega
    · exact h
theorem bits_low : ∀ k : Nat, k < 3 → ∀ m : Nat, m < 8 → ∀ j : Nat, j < k → (m % 2 ^ k) / 2 ^ j % 2 = m / 2 ^ j % 2 := by decide
theorem bits_up : ∀ k : Nat, k < 3 → ∀ m : Nat, m < 8 → m < 2 ^ k → (m / 2 ^ k % 2 = 0 ∧ (m + 2 ^ k) / 2 ^ k % 2 = 1 ∧ m + 2 ^ k < 8 ∧ (m + 2 ^ k) % 2 ^ k = m) := by decide
theorem bits_top : ∀ k : Nat, k < 3 → ∀ m : Nat, m < 8 → m < 2 ^ (k + 1) → (m / 2 ^ k % 2 = 0 → m < 2 ^ k) ∧ (m / 2 ^ k % 2 = 1 → m % 2 ^ k + 2 ^ k = m) := by decide
theorem twTo_ext {l : List Int} {v : Int} {m m' k : Nat} (h : ∀ j, j < k → m / 2 ^ j % 2 = m' / 2 ^ j % 2) (hk : k ≤ l.length) : twTo l v m k = twTo l v m' k := by
  unfold twTo
  congr 1
  refine List.ext_getElem? (fun i => ?_)
  by_cases hi : i < k
  · rw [List.getElem?_take_of_lt hi, List.getElem?_take_of_lt hi]
    unfold twA
    rw [List.getElem?_mapIdx, List.getElem?_mapIdx]
    congr 1
    funext x
    unfold twX
    rw [h i hi]
  · rw [List.getElem?_take_eq_none (by omega), List.getElem?_take_eq_none (by omega)]
theorem twTo_0 (l : List Int) (v : Int) (m : Nat) : twTo l v m 0 = l := by unfold twTo; simp
theorem spL_mem {v : Int} {a : List Int} (h3 : a.length ≤ 3) : ∀ k, k ≤ a.length → ∀ x, x ∈ spL v a k ↔ ∃ m, m < 2 ^ k ∧ x = twTo a v m k
  | 0, _, x => by
    unfold spL
    rw [List.mem_singleton]
    exact ⟨fun h => ⟨0, by simp, by rw [h, twTo_0]⟩, fun ⟨m, _, h⟩ => by rw [h, twTo_0]⟩
  | k + 1, hk, x => by
    have ih := spL_mem (v := v) h3 k (by omega)
    have hk3 : k < 3 := by omega
    have h8 : (2 : Nat) ^ (k + 1) ≤ 8 := by
      have : (2 : Nat) ^ (k + 1) ≤ 2 ^ 3 := Nat.pow_le_pow_right (by omega) (by omega)
      simpa using this
    have hp : (2 : Nat) ^ (k + 1) = 2 ^ k * 2 := Nat.pow_succ 2 k
    unfold spL
    split
    · rename_i hv
      have hset : ∀ m, m < 2 ^ k → (twTo a v m k).set k 99 = twTo a v (m + 2 ^ k) (k + 1) := fun m hm => by
        obtain ⟨b1, b2, b3, b4⟩ := bits_up k hk3 m (by omega) hm
        have hx : twX v (m + 2 ^ k) k (a.getD k 0) = 99 := by unfold twX; rw [if_pos ⟨hv, b2⟩]
        rw [← twTo_set (v := v) (m := m + 2 ^ k) (by omega : k < a.length), hx]
        congr 1
        exact twTo_ext (fun j hj => by rw [← bits_low k hk3 (m + 2 ^ k) b3 j hj, b4]) (by omega)
      have hsame : ∀ m, m < 2 ^ k → twTo a v m k = twTo a v m (k + 1) := fun m hm => by
        obtain ⟨b1, _⟩ := bits_up k hk3 m (by omega) hm
        exact twTo_same (by omega) (by unfold twX; rw [if_neg (fun h => by rw [b1] at h; exact absurd h.2 (by decide))])
      rw [List.mem_append, List.mem_map, ih]
      constructor
      · rintro (⟨m, hm, rfl⟩ | ⟨y, hy, rfl⟩)
        · exact ⟨m, by omega, hsame m hm⟩
        · obtain ⟨m, hm, rfl⟩ := (ih y).1 hy
          exact ⟨m + 2 ^ k, by omega, hset m hm⟩
      · rintro ⟨m, hm, rfl⟩
        obtain ⟨t0, t1⟩ := bits_top k hk3 m (by omega) hm
        rcases Nat.mod_two_eq_zero_or_one (m / 2 ^ k) with h | h
        · exact .inl ⟨m, t0 h, (hsame m (t0 h)).symm⟩
        · have e := t1 h
          have hlt : m % 2 ^ k < 2 ^ k := Nat.mod_lt _ (Nat.two_pow_pos k)
          refine .inr ⟨twTo a v (m % 2 ^ k) k, (ih _).2 ⟨_, hlt, rfl⟩, ?_⟩
          rw [hset _ hlt, e]
    · rename_i hv
      have hsame : ∀ m, twTo a v m k = twTo a v m (k + 1) := fun m => twTo_same (by omega) (by unfold twX; rw [if_neg (fun h => hv h.1)])
      rw [ih]
      constructor
      · rintro ⟨m, hm, rfl⟩
        exact ⟨m, by omega, hsame m⟩
      · rintro ⟨m, hm, rfl⟩
        have hlt : m % 2 ^ k < 2 ^ k := Nat.mod_lt _ (Nat.two_pow_pos k)
        refine ⟨m % 2 ^ k, hlt, ?_⟩
        rw [← hsame m]
        exact twTo_ext (fun j hj => (bits_low k hk3 m (by omega) j hj).symm) (by omega)
theorem spL_tw {v : Int} {a : List Int} (h3 : a.length ≤ 3) (x : List Int) : x ∈ spL v a a.length ↔ ∃ m, m < 8 ∧ x = twA v m a := by
  have hfull : ∀ m, twTo a v m a.length = twA v m a := fun m => by
    unfold twTo
    rw [List.drop_length, List.append_nil, ← twA_len v m a, List.take_length]
  have h8 : (2 : Nat) ^ a.length ≤ 8 := by
    have : (2 : Nat) ^ a.length ≤ 2 ^ 3 := Nat.pow_le_pow_right (by omega) h3
    simpa using this
  rw [spL_mem h3 _ (Nat.le_refl _)]
  constructor
  · rintro ⟨m, hm, rfl⟩
    exact ⟨m, by omega, hfull m⟩
  · rintro ⟨m, hm, rfl⟩
    refine ⟨m % 2 ^ a.length, Nat.mod_lt _ (Nat.two_pow_pos _), ?_⟩
    rw [← hfull m]
    refine twTo_ext (fun j hj => ?_) (Nat.le_refl _)
    by_cases h : a.length < 3
    · exact (bits_low a.length h m hm j hj).symm
    · have e : a.length = 3 := by omega
      have e8 : (2 : Nat) ^ a.length = 8 := by rw [e]
      have e9 : m % 2 ^ a.length = m := by rw [e8]; exact Nat.mod_eq_of_lt hm
      rw [e9]

/-- The facts that splitFacts has inserted of the first j lists of fact f. -/
def prRow (v : Int) (f : AtomD) (o : List AtomD) (j : Nat) : List AtomD := ((spL v f.2 f.2.length).take j).foldl (fun o a => putF o (f.1, a)) o
def prN (db : List AtomD) (v : Int) (i : Nat) : List AtomD := (db.take i).foldl (fun o f => prRow v f o (spL v f.2 f.2.length).length) []
theorem prRow_0 (v : Int) (f : AtomD) (o : List AtomD) : prRow v f o 0 = o := by unfold prRow; simp
theorem prRow_succ {v : Int} {f : AtomD} {o : List AtomD} {j : Nat} {a : List Int} (h : (spL v f.2 f.2.length)[j]? = some a) : prRow v f o (j + 1) = putF (prRow v f o j) (f.1, a) := by
  unfold prRow
  rw [List.take_add_one, h, List.foldl_append]; rfl
theorem prN_0 (db : List AtomD) (v : Int) : prN db v 0 = [] := by unfold prN; simp
theorem prN_succ {db : List AtomD} {v : Int} {i : Nat} {f : AtomD} (h : db[i]? = some f) : prN db v (i + 1) = prRow v f (prN db v i) (spL v f.2 f.2.length).length := by
  unfold prN
  rw [List.take_add_one, h, List.foldl_append]; rfl
theorem prRow_ok {v : Int} {f : AtomD} {o : List AtomD} (h : Asc o) : ∀ j, Asc (prRow v f o j) ∧ ∀ x, x ∈ prRow v f o j ↔ x ∈ o ∨ ∃ a ∈ (spL v f.2 f.2.length).take j, x = (f.1, a)
  | 0 => ⟨by rw [prRow_0]; exact h, fun x => by rw [prRow_0]; simp⟩
  | j + 1 => by
    obtain ⟨i1, i2⟩ := prRow_ok (v := v) (f := f) h j
    cases hj : (spL v f.2 f.2.length)[j]? with
    | none =>
      have e : prRow v f o (j + 1) = prRow v f o j := by
        unfold prRow
        rw [List.take_add_one, hj]; simp
      rw [e, List.take_add_one, hj]
      simp only [Option.toList_none, List.append_nil]
      exact ⟨i1, i2⟩
    | some a =>
      rw [prRow_succ hj]
      refine ⟨putF_asc i1, fun x => ?_⟩
      rw [putF_in i1, i2, List.take_add_one, hj]
      simp only [Option.toList_some, List.mem_append, List.mem_singleton]
      constructor
      · rintro (rfl | h1 | ⟨b, hb, rfl⟩)
        · exact .inr ⟨a, .inr rfl, rfl⟩
        · exact .inl h1
        · exact .inr ⟨b, .inl hb, rfl⟩
      · rintro (h1 | ⟨b, hb | rfl, rfl⟩)
        · exact .inr (.inl h1)
        · exact .inr (.inr ⟨b, hb, rfl⟩)
        · exact .inl rfl
theorem prN_ok {db : List AtomD} {v : Int} : ∀ i, i ≤ db.length → Asc (prN db v i) ∧ ∀ x, x ∈ prN db v i ↔ ∃ f ∈ db.take i, ∃ a ∈ spL v f.2 f.2.length, x = (f.1, a)
  | 0, _ => ⟨by rw [prN_0]; intro i j h1 h2; simp at h2, fun x => by rw [prN_0]; simp⟩
  | i + 1, hi => by
    obtain ⟨i1, i2⟩ := prN_ok (db := db) (v := v) i (by omega)
    have hf : db[i]? = some db[i] := List.getElem?_eq_getElem (by omega)
    rw [prN_succ hf]
    obtain ⟨j1, j2⟩ := prRow_ok (v := v) (f := db[i]) i1 (spL v db[i].2 db[i].2.length).length
    refine ⟨j1, fun x => ?_⟩
    rw [j2, i2, List.take_length, List.take_add_one, hf]
    simp only [Option.toList_some, List.mem_append, List.mem_singleton]
    constructor
    · rintro (⟨f, h1, h2⟩ | ⟨a, h1, h2⟩)
      · exact ⟨f, .inl h1, h2⟩
      · exact ⟨db[i], .inr rfl, a, h1, h2⟩
    · rintro ⟨f, h1 | rfl, h2⟩
      · exact .inl ⟨f, h1, h2⟩
      · exact .inr h2
theorem twRow_ok {v : Int} {f : AtomD} {o : List AtomD} (h : Asc o) : ∀ n, Asc (twRow v f o n) ∧ ∀ x, x ∈ twRow v f o n ↔ x ∈ o ∨ ∃ m, m < n ∧ x = twF v m f
  | 0 => ⟨by unfold twRow; simpa using h, fun x => by unfold twRow; simp⟩
  | n + 1 => by
    obtain ⟨i1, i2⟩ := twRow_ok (v := v) (f := f) h n
    rw [twRow_succ]
    refine ⟨putF_asc i1, fun x => ?_⟩
    rw [putF_in i1, i2]
    constructor
    · rintro (rfl | h1 | ⟨m, hm, rfl⟩)
      · exact .inr ⟨n, by omega, rfl⟩
      · exact .inl h1
      · exact .inr ⟨m, by omega, rfl⟩
    · rintro (h1 | ⟨m, hm, rfl⟩)
      · exact .inr (.inl h1)
      · by_cases e : m = n
        · subst e; exact .inl rfl
        · exact .inr (.inr ⟨m, by omega, rfl⟩)
theorem twN_ok {db : List AtomD} {v : Int} (h : Asc db) : ∀ i, i ≤ db.length → Asc (twN db v i) ∧ ∀ x, x ∈ twN db v i ↔ x ∈ db ∨ ∃ f ∈ db.take i, ∃ m, m < 8 ∧ x = twF v m f
  | 0, _ => ⟨by unfold twN; simpa using h, fun x => by unfold twN; simp⟩
  | i + 1, hi => by
    obtain ⟨i1, i2⟩ := twN_ok (v := v) h i (by omega)
    have hf : db[i]? = some db[i] := List.getElem?_eq_getElem (by omega)
    rw [twN_succ hf]
    obtain ⟨j1, j2⟩ := twRow_ok (v := v) (f := db[i]) i1 8
    refine ⟨j1, fun x => ?_⟩
    rw [j2, i2, List.take_add_one, hf]
    simp only [Option.toList_some, List.mem_append, List.mem_singleton]
    constructor
    · rintro ((h1 | ⟨f, h1, h2⟩) | h2)
      · exact .inl h1
      · exact .inr ⟨f, .inl h1, h2⟩
      · exact .inr ⟨db[i], .inr rfl, h2⟩
    · rintro (h1 | ⟨f, h1 | rfl, h2⟩)
      · exact .inl (.inl h1)
      · exact .inl (.inr ⟨f, h1, h2⟩)
      · exact .inr h2
theorem twF_0 (v : Int) (f : AtomD) : twF v 0 f = f := by
  unfold twF twA
  have : f.2.mapIdx (twX v 0) = f.2 := by
    refine List.ext_getElem (by simp) (fun i h1 h2 => ?_)
    rw [List.getElem_mapIdx]
    unfold twX
    rw [if_neg (by simp)]
  rw [this]
theorem prN_tw {db : List AtomD} {v : Int} (h : Asc db) (h3 : ∀ x ∈ db, x.2.length ≤ 3) : prN db v db.length = twN db v db.length := by
  obtain ⟨a1, a2⟩ := prN_ok (db := db) (v := v) _ (Nat.le_refl _)
  obtain ⟨b1, b2⟩ := twN_ok (v := v) h _ (Nat.le_refl _)
  refine strictF_unique a1.strict b1.strict (fun x => ?_)
  rw [a2, b2, List.take_length]
  constructor
  · rintro ⟨f, hf, a, ha, rfl⟩
    obtain ⟨m, hm, rfl⟩ := (spL_tw (h3 f hf) a).1 ha
    exact .inr ⟨f, hf, m, hm, rfl⟩
  · rintro (hx | ⟨f, hf, m, hm, rfl⟩)
    · exact ⟨x, hx, x.2, (spL_tw (h3 x hx) _).2 ⟨0, by omega, by have := twF_0 v x; unfold twF at this; exact (congrArg Prod.snd this).symm⟩, rfl⟩
    · exact ⟨f, hf, _, (spL_tw (h3 f hf) _).2 ⟨m, hm, rfl⟩, rfl⟩
end Go.Proofs.YtnbljidjbknleaaGreat

/-! I11b -/
namespace Go.Proofs.YtnbljidjbknleaaGreat
open Go Go.Sort Go.RowKit
set_option linter.unusedVariables false

section
variable {P : Program}
/-- One element appended to a row: where the new row lies, which block is written, and that the old row's elements stay. -/
theorem wpList_app1K {wr w0 : World} {ops : Array Oper} {rest : List Oper} {o : Oper} {a : Act} {Q : Exit → Act → World → Prop} (hgd : o.guard = none) (s x : Operand) (t : TypeId)
    (ho : o.op = .call { callee := .builtin .append, args := #[s, x], argTypes := #[t, t] })
    (E : TypeId) (z : Value) (size bytes : Nat) (ht : P.underlying t = some (.slice E)) (hinfo : (P.info? E).map (fun i => (i.zero, i.size, i.bytes)) = some (some z, size, bytes)) (h8 : bytes ≤ 128) (hsz : 0 < size) (hzs : z.cells.size = size)
    (g n cap : Nat) (cs : List Value) (hs : a.eval s = .slice (some ⟨g, 0, none⟩) n cap) (hown : BuiltC E size w0 wr (.slice (some ⟨g, 0, none⟩) n cap) n cs) (new : List Value) (hnew : new.length = size) (h1 : ∀ u ∈ new, u.oneCell' = true)
    (hx : a.eval x = .slice (some ⟨wr.heap.size, 0, none⟩) 1 1) (hn : n + 1 ≤ 1099511627776)
    (h : ∀ g' cap' w', BuiltC E size w0 w' (.slice (some ⟨g', 0, none⟩) (n + 1) cap') (n + 1) (cs ++ new) → OnlyAt [g] wr w' → (g' = g ∨ wr.heap.size ≤ g') → (∀ j, j < n * size → w'.cell? ⟨g, j, none⟩ = cs[j]?) → wpList P ops Q rest (a.put o.dst (.slice (some ⟨g', 0, none⟩) (n + 1) cap')) w') : wpList P ops Q (o :: rest) a (wr.alloc (.cells new.toArray E)) := by
  obtain ⟨i, hi, hz0, hz1, hz2⟩ := info_parts hinfo
  have hsw := hown.2.size
  have hlen : (n + 1) * bytes ≤ 140737488355328 := by
    have : (n + 1) * bytes ≤ 1099511627776 * 128 := Nat.mul_le_mul hn h8
    omega
  have hcell : ∀ j u, new[j]? = some u → (wr.alloc (.cells new.toArray E)).cell? ((⟨wr.heap.size, 0, none⟩ : Addr).add j) = some u := by
    intro j u hu
    rw [Addr.add_lit, Nat.zero_add, World.cell?_alloc_at _ _ _ _ rfl]
    simpa using hu
  have hal : OnlyAt [g] wr (wr.alloc (.cells new.toArray E)) := OnlyAt.ofBelow _ ((Below.refl _ _).alloc (Nat.le_refl _) _)
  have hown' := hown.1.alloc (.cells new.toArray E)
  obtain ⟨hc1, hc2⟩ : n ≤ cap ∧ cap ≤ maxLen := by
    rcases hown.form with ⟨e, _⟩ | ⟨g1, c1, e, q1, q2⟩
    · cases e
    · cases e; exact ⟨q1, q2⟩
  by_cases hfit : n + 1 ≤ cap
  · refine wpList_append_fits (wr.alloc (.cells new.toArray E)) hgd s x t ho w0.heap.size E i size ht hi hz1 g n cap cs hs hown' ⟨wr.heap.size, 0, none⟩ 1 1 new hx (by simpa using hnew) hcell h1 hfit ?_
    intro w' hr hg
    have hB : BuiltC E size w0 w' (.slice (some ⟨g, 0, none⟩) (n + 1) cap) (n + 1) (cs ++ new) := ⟨hr, (hown.2.alloc hsw _).grown hg (by simp; omega) (fun j hj => by cases hj; exact hown.lt.1)⟩
    refine h g cap w' hB (hal.same (onlyAt_grown _ hg (fun k hk => by cases hk; simp))) (.inl rfl) (fun j hj => ?_)
    rw [hB.cell j (by rw [Nat.succ_mul]; omega), List.getElem?_append_left (by rw [hown.len]; exact hj)]
  · refine wpList_append_grows (wr.alloc (.cells new.toArray E)) hgd s x t ho E i z size bytes ht hi hz0 hz1 hz2 hzs hsz (some ⟨g, 0, none⟩) n cap cs hs (fun e => by cases e) hown.len (fun b hb j u hu => ?_) ⟨wr.heap.size, 0, none⟩ 1 1 new hx (by simpa using hnew) hcell h1 (by omega) (by unfold maxLen; omega) hlen ?_
    · cases hb
      rw [Addr.add_lit, Nat.zero_add]
      have hj : j < cs.length := (List.getElem?_eq_some_iff.1 hu).1
      rw [← hu]
      exact World.ownsRow.cellAt hown' j (by rw [← hown.len]; exact hj)
    · intro v' w' hr hg
      have hb : Below w0.heap.size w0 w' := (hown.2.alloc hsw _).grown hg (by simp; omega) (fun j hj => by cases hj)
      have hkeep : ∀ j, j < n * size → w'.cell? ⟨g, j, none⟩ = cs[j]? := fun j hj => by
        have h0 := World.ownsRow.cellAt hown' j hj
        have hlt : g < (wr.alloc (.cells new.toArray E)).heap.size := by have := hown.lt.2; simp; omega
        rw [← h0]
        exact World.grownBy.cell_far hg ⟨g, j, none⟩ hlt (by simp)
      rcases hr.2 with ⟨rfl, h2⟩ | ⟨g1, cap1, cur, rfl, hlo, h3⟩
      · omega
      · refine h g1 cap1 w' ⟨⟨hr.1, .inr ⟨g1, cap1, cur, rfl, by simp at hlo; omega, h3⟩⟩, hb⟩ (hal.same (onlyAt_grown _ hg (fun k hk => by cases hk))) (.inr (by simp at hlo; omega)) hkeep
end

/-- v reads as l, whatever is written from block N on outside of bs. -/
def IntsE (N : Nat) (w : World) (v : Value) (l : List Int) (bs : List Nat) : Prop := ∀ w' zs, OnlyAt zs w w' → (∀ z ∈ zs, N ≤ z ∧ z ∉ bs) → Ints w' v l
theorem IntsE.step {N : Nat} {w w1 : World} {v : Value} {l : List Int} {bs zs : List Nat} (h : IntsE N w v l bs) (k : OnlyAt zs w w1) (hz : ∀ z ∈ zs, N ≤ z ∧ z ∉ bs) : IntsE N w1 v l bs := fun w' zs' k' hz' =>
  h w' (zs ++ zs') (k.trans k') (fun z hm => by rcases List.mem_append.1 hm with hm | hm; exact hz z hm; exact hz' z hm)
theorem IntsE.grow {N : Nat} {w w1 : World} {v : Value} {l : List Int} {bs : List Nat} (h : IntsE N w v l bs) (hb : Below w.heap.size w w1) : IntsE N w1 v l bs := h.step (OnlyAt.ofBelow [] hb) (fun z hz => by cases hz)
theorem IntsE.of {W w : World} {v : Value} {l : List Int} (h : Ints W v l) (hb : Below W.heap.size W w) : IntsE W.heap.size w v l [] := fun w' zs k hz => h.below (OnlyAt.below hb k (fun z hm => (hz z hm).1))
theorem IntsE.owned {N : Nat} {w : World} {v : Value} {l : List Int} {bs : List Nat} (h : OInts w v l bs) : IntsE N w v l bs := fun w' zs k hz => (h.onlyAt k (fun b hb hm => (hz b hm).2 hb)).1
theorem IntsE.now {N : Nat} {w : World} {v : Value} {l : List Int} {bs : List Nat} (h : IntsE N w v l bs) : Ints w v l := h w [] (OnlyAt.refl _ _) (fun z hz => by cases hz)
theorem IntsE.more {N : Nat} {w : World} {v : Value} {l : List Int} {bs bs' : List Nat} (h : IntsE N w v l bs) (hs : ∀ b ∈ bs, b ∈ bs') : IntsE N w v l bs' := fun w' zs k hz => h w' zs k (fun z hm => ⟨(hz z hm).1, fun hb => (hz z hm).2 (hs z hb)⟩)
/-- The arguments of a row of facts. -/
def EAll (N : Nat) (w : World) (avs : List Value) (L : List (List Int)) (bs : List Nat) : Prop := avs.length = L.length ∧ ∀ (j : Nat) (av : Value) (l : List Int), avs[j]? = some av → L[j]? = some l → (∃ a n c, av = .slice a n c) ∧ IntsE N w av l bs
theorem EAll.step {N : Nat} {w w1 : World} {avs : List Value} {L : List (List Int)} {bs zs : List Nat} (h : EAll N w avs L bs) (k : OnlyAt zs w w1) (hz : ∀ z ∈ zs, N ≤ z ∧ z ∉ bs) : EAll N w1 avs L bs := ⟨h.1, fun j av l h1 h2 => ⟨(h.2 j av l h1 h2).1, (h.2 j av l h1 h2).2.step k hz⟩⟩
theorem EAll.grow {N : Nat} {w w1 : World} {avs : List Value} {L : List (List Int)} {bs : List Nat} (h : EAll N w avs L bs) (hb : Below w.heap.size w w1) : EAll N w1 avs L bs := h.step (OnlyAt.ofBelow [] hb) (fun z hz => by cases hz)
theorem EAll.more {N : Nat} {w : World} {avs : List Value} {L : List (List Int)} {bs bs' : List Nat} (h : EAll N w avs L bs) (hs : ∀ b ∈ bs, b ∈ bs') : EAll N w avs L bs' := ⟨h.1, fun j av l h1 h2 => ⟨(h.2 j av l h1 h2).1, (h.2 j av l h1 h2).2.more hs⟩⟩
theorem EAll.snoc {N : Nat} {w : World} {avs : List Value} {L : List (List Int)} {bs : List Nat} (h : EAll N w avs L bs) {av : Value} {l : List Int} (hv : ∃ a n c, av = .slice a n c) (hl : IntsE N w av l bs) : EAll N w (avs ++ [av]) (L ++ [l]) bs := by
  refine ⟨by simp [h.1], fun j av' l' h1 h2 => ?_⟩
  rcases Nat.lt_or_ge j avs.length with hj | hj
  · rw [List.getElem?_append_left hj] at h1
    rw [List.getElem?_append_left (by rw [← h.1]; exact hj)] at h2
    exact h.2 j av' l' h1 h2
  · have hj2 : j = avs.length := by
      have := (List.getElem?_eq_some_iff.1 h1).1
      simp at this; omega
    subst hj2
    rw [List.getElem?_append_right (Nat.le_refl _), Nat.sub_self] at h1
    rw [List.getElem?_append_right (by rw [h.1]; exact Nat.le_refl _), ← h.1, Nat.sub_self] at h2
    simp at h1 h2
    subst h1; subst h2
    exact ⟨hv, hl⟩
theorem EAll.join {N : Nat} {w : World} {avs avs' : List Value} {L L' : List (List Int)} {bs : List Nat} (h : EAll N w avs L bs) (h' : EAll N w avs' L' bs) : EAll N w (avs ++ avs') (L ++ L') bs := by
  refine ⟨by simp [h.1, h'.1], fun j av l h1 h2 => ?_⟩
  rcases Nat.lt_or_ge j avs.length with hj | hj
  · rw [List.getElem?_append_left hj] at h1
    rw [List.getElem?_append_left (by rw [← h.1]; exact hj)] at h2
    exact h.2 j av l h1 h2
  · rw [List.getElem?_append_right hj] at h1
    rw [List.getElem?_append_right (by rw [← h.1]; exact hj), ← h.1] at h2
    exact h'.2 _ av l h1 h2
/-- The cells of a row of facts of one relation. -/
def rowC (r : Int) (avs : List Value) : List Value := avs.flatMap (fun a => [.int .i64 r, a])
theorem rowC_app (r : Int) (avs : List Value) (a : Value) : rowC r (avs ++ [a]) = rowC r avs ++ [.int .i64 r, a] := by unfold rowC; simp
theorem rowC_len (r : Int) (avs : List Value) : (rowC r avs).length = avs.length * 2 := by
  induction avs with
  | nil => rfl
  | cons a l ih => unfold rowC at ih ⊢; simp only [List.flatMap_cons, List.length_append, List.length_cons, List.length_nil, ih]; omega
theorem rowC_at (r : Int) (avs : List Value) : ∀ (j : Nat) (a : Value), avs[j]? = some a → (rowC r avs)[j * 2]? = some (.int .i64 r) ∧ (rowC r avs)[j * 2 + 1]? = some a := by
  induction avs with
  | nil => intro j a h; simp at h
  | cons b l ih =>
    intro j a h
    have e : rowC r (b :: l) = [.int .i64 r, b] ++ rowC r l := rfl
    rw [e]
    cases j with
    | zero =>
      simp at h
      subst h
      exact ⟨rfl, rfl⟩
    | succ j =>
      have h' : l[j]? = some a := by simpa using h
      obtain ⟨h1, h2⟩ := ih j a h'
      rw [List.getElem?_append_right (by simp; omega), List.getElem?_append_right (by simp; omega)]
      simp only [List.length_cons, List.length_nil]
      rw [show (j + 1) * 2 - (0 + 1 + 1) = j * 2 from by omega, show (j + 1) * 2 + 1 - (0 + 1 + 1) = j * 2 + 1 from by omega]
      exact ⟨h1, h2⟩
theorem rowC_pre (r : Int) (avs avs' : List Value) (j : Nat) (hj : j < avs.length * 2) : (rowC r (avs ++ avs'))[j]? = (rowC r avs)[j]? := by
  have : rowC r (avs ++ avs') = rowC r avs ++ rowC r avs' := by unfold rowC; simp
  rw [this, List.getElem?_append_left (by rw [rowC_len]; exact hj)]
/-- A row of facts that reads, whatever is written from N on outside of bs. -/
def FRow (N : Nat) (w : World) (v : Value) (r : Int) (L : List (List Int)) (bs : List Nat) : Prop :=
  ∃ g cap avs, v = .slice (some ⟨g, 0, none⟩) L.length cap ∧ L.length ≤ cap ∧ cap ≤ maxLen ∧ g < w.heap.size ∧ g ∈ bs ∧ (∀ j, j < L.length * 2 → w.cell? ⟨g, j, none⟩ = (rowC r avs)[j]?) ∧ EAll N w avs L bs
theorem FRow.step {N : Nat} {w w1 : World} {v : Value} {r : Int} {L : List (List Int)} {bs zs : List Nat} (h : FRow N w v r L bs) (k : OnlyAt zs w w1) (hz : ∀ z ∈ zs, N ≤ z ∧ z ∉ bs) : FRow N w1 v r L bs := by
  obtain ⟨g, cap, avs, rfl, h1, h2, h3, h4, h5, h6⟩ := h
  refine ⟨g, cap, avs, rfl, h1, h2, Nat.lt_of_lt_of_le h3 k.size, h4, fun j hj => ?_, h6.step k hz⟩
  rw [← h5 j hj]
  have hgz : g ∉ zs := fun hm => (hz g hm).2 h4
  exact World.cell?_of_block (k.block g h3 hgz)
theorem FRow.grow {N : Nat} {w w1 : World} {v : Value} {r : Int} {L : List (List Int)} {bs : List Nat} (h : FRow N w v r L bs) (hb : Below w.heap.size w w1) : FRow N w1 v r L bs := h.step (OnlyAt.ofBelow [] hb) (fun z hz => by cases hz)

set_option maxRecDepth 100000 in
set_option maxHeartbeats 16000000 in
theorem iSplitF_any (W w : World) (r x : Int) (va : Value) (a : List Int) (hr : inI r) (hb : Below W.heap.size W w) (h : Ints W va a) (h3 : a.length ≤ 3) :
    Calls Tryz.prog 84 #[.agg #[.int .i64 r, va], .int .i64 x] w (fun e w' => ∃ v bs, e = .returned v ∧ FRow W.heap.size w' v r (spL x a a.length) bs ∧ (∀ b ∈ bs, w.heap.size ≤ b ∧ b < w'.heap.size) ∧ Below w.heap.size w w') := by
  have HE0 := Lib.hid (IntsE.of h hb)
  have HAI := Lib.hid h.1
  obtain ⟨fa, n, fc, rfl, hl, hn, hm, hcell⟩ := h.cases
  unfold maxLen at hm
  have HC := Lib.hid hcell
  have HL := Lib.hid hl
  have HBW := Lib.hid hb
  have hn3 : n ≤ 3 := by omega
  have HR := Lib.hid hr
  have HNW : Hid (W.heap.size ≤ w.heap.size) := hb.size
  have hcopy := Lib.hid (fun w v f h1 h2 => iCopyF_any w v f h1 h2)
  clear h hcell hl hb hr h3
  go_enter Tryz.func84, Tryz.ntmps84
  go_wp2_with fail
  obtain ⟨W0, hW0⟩ : ∃ W, W = w.alloc (.cells #[.int .i64 r, .slice fa n fc] 62) := ⟨_, rfl⟩
  obtain ⟨W1, hW1⟩ : ∃ W, W = W0.alloc (.cells #[.int .i64 r, .slice fa n fc] 62) := ⟨_, rfl⟩
  have hs0 : W0.heap.size = w.heap.size + 1 := by rw [hW0]; simp
  have HB0 : Hid (Below w.heap.size w W0) := Lib.hid (by rw [hW0]; exact below_alloc _ _)
  have HBU : Hid (BuiltC 62 2 W0 W1 (.slice (some ⟨w.heap.size + 1, 0, none⟩) 1 1) 1 (rowC r [.slice fa n fc])) := Lib.hid (by
    rw [hW1, ← hs0]; exact BuiltC.lit 62 2 W0 W0 1 [.int .i64 r, .slice fa n fc] (by unfold maxLen; omega) rfl (Below.refl _ _))
  rw [← hW0, ← hW1]
  have HS0 := Lib.hid hs0
  clear hW0 hW1 hs0
  go_loopw [16, 5] (fun iv sv wr => ∃ (i g cap : Nat) (avs : List Value) (bs : List Nat), i ≤ n ∧ iv = .int .i64 i ∧ sv = .slice (some ⟨g, 0, none⟩) (spL x a i).length cap ∧ Hid (BuiltC 62 2 W0 wr (.slice (some ⟨g, 0, none⟩) (spL x a i).length cap) (spL x a i).length (rowC r avs)) ∧ Hid (EAll W.heap.size wr avs (spL x a i) bs) ∧ Hid (g ∉ bs ∧ ∀ b ∈ bs, W0.heap.size ≤ b ∧ b < wr.heap.size)) (fun iv _ _ => n - (intOf iv).toNat)
  case atStart =>
    refine ⟨0, w.heap.size + 1, 1, [.slice fa n fc], [], by omega, rfl, rfl, HBU, ⟨rfl, fun j av l h1 h2 => ?_⟩, ⟨by simp, fun b hb => by cases hb⟩⟩
    have hbb := bnext HB0.out HBU.out.2
    cases j with
    | zero =>
      simp [spL] at h1 h2
      subst h1; subst h2
      exact ⟨⟨_, _, _, rfl⟩, HE0.out.grow hbb⟩
    | succ j => simp at h1
  case round =>
    obtain ⟨wi, hwi⟩ : ∃ z, z = wr := ⟨_, rfl⟩
    subst hwi
    obtain ⟨i, g, cap, avs, bs, hi, rfl, rfl, HBI, HEI, HDI⟩ := hrel
    by_cases hlt : i < n
    · obtain ⟨fb, fo, rfl, hbw, hc⟩ := HC.out (by omega)
      have c1 := cellk (bnext HBW.out (bnext HB0.out HBI.out.2)) (hc i hlt)
      have hi0 : (0 : Int) ≤ i := by omega
      have hi1 : (i : Int) < n := by omega
      have HSL := Lib.hid (show spL x a (i + 1) = if a.getD i 0 = x then spL x a i ++ (spL x a i).map (fun l => l.set i 99) else spL x a i from rfl)
      have HLM := Lib.hid (spL_len x a i)
      have HLA := Lib.hid (spL_all x a i)
      have HLI := Lib.hid (spL_inI (v := x) HAI.out i)
      have h2i : 2 ^ i ≤ 8 := by
        have : (2 : Nat) ^ i ≤ 2 ^ 3 := Nat.pow_le_pow_right (by omega) (by omega)
        simpa using this
      clear hc hbw
      generalize a.getD i 0 = y at *
      by_cases hy : y = x
      · have q : (y != x) = false := by rw [hy]; simp
        rw [if_pos hy] at HSL
        obtain ⟨m, hm⟩ : ∃ m, (spL x a i).length = m := ⟨_, rfl⟩
        have HM := Lib.hid hm
        have hm8 : m ≤ 8 := by rw [← hm]; exact Nat.le_trans HLM.out h2i
        rw [hm] at HBI ⊢
        clear hm hy
        go_wp2_with fail
        go_loopw [26, 5] (fun jv sv wr => ∃ (j g' cap' : Nat) (avs' : List Value) (bs' : List Nat), j ≤ m ∧ jv = .int .i64 j ∧ sv = .slice (some ⟨g', 0, none⟩) (m + j) cap' ∧ Hid (BuiltC 62 2 W0 wr (.slice (some ⟨g', 0, none⟩) (m + j) cap') (m + j) (rowC r (avs ++ avs'))) ∧ Hid (EAll W.heap.size wr avs (spL x a i) bs') ∧ Hid (EAll W.heap.size wr avs' (((spL x a i).take j).map (fun l => l.set i 99)) bs') ∧ Hid (g' ∉ bs' ∧ g ∉ bs' ∧ g < wr.heap.size ∧ ∀ b ∈ bs', W0.heap.size ≤ b ∧ b < wr.heap.size) ∧ Hid (∀ t, t < m * 2 → wr.cell? ⟨g, t, none⟩ = (rowC r avs)[t]?)) (fun jv _ _ => m - (intOf jv).toNat)
        case atStart =>
          exact ⟨0, g, cap, [], bs, by omega, rfl, rfl, by rw [List.append_nil]; exact HBI, HEI, ⟨rfl, fun j av l h1 h2 => by simp at h1⟩, ⟨HDI.out.1, HDI.out.1, HBI.out.lt.2, HDI.out.2⟩, fun t ht => HBI.out.cell t ht⟩
        case round =>
          obtain ⟨wj, hwj⟩ : ∃ z, z = wr := ⟨_, rfl⟩
          subst hwj
          obtain ⟨j, g1, cap1, avs1, bs1, hj, rfl, rfl, HB1, HEO, HEN, HD1, HOLD⟩ := hrel
          by_cases hltj : j < m
          · have hav : avs.length = m := by rw [HEO.out.1]; exact HM.out
            obtain ⟨av, havj⟩ : ∃ av, avs[j]? = some av := ⟨avs[j]'(by omega), List.getElem?_eq_getElem (by omega)⟩
            obtain ⟨l, hlj⟩ : ∃ l, (spL x a i)[j]? = some l := ⟨(spL x a i)[j]'(by rw [HM.out]; exact hltj), List.getElem?_eq_getElem (by rw [HM.out]; exact hltj)⟩
            obtain ⟨⟨ea, en, ec, rfl⟩, hie⟩ := HEO.out.2 j av l havj hlj
            obtain ⟨r0, r1⟩ := rowC_at r avs j _ havj
            have c0 := (HOLD.out (j * 2) (by omega)).trans r0
            have c1' := (HOLD.out (j * 2 + 1) (by omega)).trans r1
            have hj0 : (0 : Int) ≤ j := by omega
            have hj1 : (j : Int) < m := by omega
            have hmem : l ∈ spL x a i := List.mem_of_getElem? hlj
            have hll : l.length = n := (HLA.out l hmem).trans HL.out
            have HLE := Lib.hid hlj
            have HIE := Lib.hid hie
            have HINL := Lib.hid (HLI.out l hmem)
            have HCP := Lib.hid (fun w' (hb : Below wj.heap.size wj w') => hcopy.out w' (.agg #[.int .i64 r, .slice ea en ec]) (r, l) ⟨ea, en, ec, rfl, HR.out, (HIE.out.grow hb).now⟩ (by show l.length ≤ 1048576; omega))
            unfold GaveO at HCP
            clear r0 r1 havj hie hmem hlj hav c1
            have c1 := c1'
            clear c1'
            go_wp2_with fail
            obtain ⟨wk, hwk⟩ : ∃ z, z = wj.alloc (.cells #[.int .i64 r, .slice ea en ec] 62) := ⟨_, rfl⟩
            have HBK : Hid (Below wj.heap.size wj wk) := Lib.hid (by rw [hwk]; exact below_alloc _ _)
            rw [← hwk]
            clear hwk c0 c1
            refine (HCP.out _ HBK.out).mono ?_
            rintro e w2 ⟨v2, bs2, rfl, ⟨ca, cn, cc, rfl, _, ho2⟩, hf2, hb2⟩
            have hb2j := bnext HBK.out hb2
            obtain ⟨cb, co, rfl, rfl, rfl, hfr2⟩ : ∃ cb co, ca = some ⟨cb, co, none⟩ ∧ n = cn ∧ bs2 = [cb] ∧ ∀ t, t < n → w2.frozen? ⟨cb, co + t, none⟩ = false := by
              have hcl : cn = n := by
                obtain ⟨_, _, _, e, h7, _⟩ := ho2.1.cases
                cases e
                have : (r, l).2 = l := rfl
                rw [this] at h7
                omega
              rcases ho2.2 with ⟨_, _, e, _⟩ | ⟨b, o, n', c', e, _, hbs, hf⟩
              · cases e; omega
              · cases e; exact ⟨b, o, rfl, hcl.symm, hbs, by rw [← hcl]; exact hf⟩
            change OInts w2 (.slice (some ⟨cb, co, none⟩) n cc) l [cb] at ho2
            have hcb := hf2.2 cb (by simp)
            have hks := HBK.out.size
            have hbsz := hb2.size
            have hW0j := HB1.out.2.size
            have hcbW : W0.heap.size ≤ cb := by omega
            have hcbg1 : cb ≠ g1 := by have := HB1.out.lt.2; omega
            have hcbg : cb ≠ g := by have := HD1.out.2.2.1; omega
            have hcbb : ∀ z ∈ bs1, z ≠ cb := fun z hz => by have := (HD1.out.2.2.2 z hz).2; omega
            obtain ⟨y0, hy0⟩ : ∃ y0, w2.cell? ⟨cb, co + i, none⟩ = some (.int .i64 y0) := by
              obtain ⟨_, _, _, e, _, _, _, h7⟩ := ho2.1.cases
              cases e
              obtain ⟨b8, o8, e8, _, h8⟩ := h7 (by omega)
              cases e8
              exact ⟨_, h8 i hlt⟩
            have hfri := hfr2 i hlt
            have hal := below_alloc w2 (.cells #[.int .i64 r, .slice (some ⟨cb, co, none⟩) n cc] 62)
            have kc := cellk hal hy0
            have kf := frok hal hy0 hfri
            have ko4 := OnlyAt.setCell (w2.alloc (.cells #[.int .i64 r, .slice (some ⟨cb, co, none⟩) n cc] 62)) cb (co + i) (.int .i64 99)
            have hbja := bnext hb2j hal
            have hoi4 := Lib.hid ((ho2.below hal).set11 hlt (y := 99) (by unfold inI; omega))
            have hB4 := (HB1.out.grow hbja).onlyAtE ko4 (fun z hz => by simp at hz; omega) (by simp; exact fun e => hcbg1 e.symm)
            have hEO4 := Lib.hid (((HEO.out.grow hbja).step ko4 (fun z hz => by simp at hz; subst hz; exact ⟨by have := HNW.out; have := HB0.out.size; omega, fun hm => hcbb _ hm rfl⟩)).more (bs' := cb :: bs1) (fun z hz => List.mem_cons_of_mem _ hz))
            have hEN4 := Lib.hid ((((HEN.out.grow hbja).step ko4 (fun z hz => by simp at hz; subst hz; exact ⟨by have := HNW.out; have := HB0.out.size; omega, fun hm => hcbb _ hm rfl⟩)).more (bs' := cb :: bs1) (fun z hz => List.mem_cons_of_mem _ hz)).snoc (av := .slice (some ⟨cb, co, none⟩) n cc) (l := l.set i 99) ⟨_, _, _, rfl⟩ ((IntsE.owned hoi4.out).more (fun z hz => by simp at hz; simp [hz])))
            have hOL4 : Hid (∀ t, t < m * 2 → ((w2.alloc (.cells #[.int .i64 r, .slice (some ⟨cb, co, none⟩) n cc] 62)).setCell ⟨cb, co + i, none⟩ (.int .i64 99)).cell? ⟨g, t, none⟩ = (rowC r avs)[t]?) := Lib.hid fun t ht => by
              rw [← HOLD.out t ht]
              have hgl := HD1.out.2.2.1
              have h1 := hbja.size
              exact (World.cell?_of_block (ko4.block g (by simpa using Nat.lt_of_lt_of_le hgl h1) (by simp; exact fun e => hcbg e.symm))).trans (World.cell?_of_block (hbja.block g hgl))
            have hsz4 : ((w2.alloc (.cells #[.int .i64 r, .slice (some ⟨cb, co, none⟩) n cc] 62)).setCell ⟨cb, co + i, none⟩ (.int .i64 99)).heap.size = w2.heap.size + 1 := by simp [World.setCell]
            have HSZ4 := Lib.hid hsz4
            have hcb2 : cb < w2.heap.size := hcb.2
            have hTK : (((spL x a i).take (j + 1)).map (fun l => l.set i 99)) = ((spL x a i).take j).map (fun l => l.set i 99) ++ [l.set i 99] := by
              rw [List.take_add_one, HLE.out, List.map_append]; rfl
            have HTK := Lib.hid hTK
            have HCBB := Lib.hid hcbb
            have HB4 := Lib.hid hB4
            have HG1 := Lib.hid HB1.out.lt
            have hEQ4 := World.setCell_alloc_past (w := w2) (.cells #[.int .i64 r, .slice (some ⟨cb, co, none⟩) n cc] 62) cb (co + i) (.int .i64 99) hcb2
            rw [hEQ4] at HB4 hEO4 hEN4 hOL4 HSZ4
            clear hb2 hb2j ho2 hfr2 hf2 hy0 hfri hal ko4 hbja hoi4 hB4 hsz4 hTK hcbb HCP HBK hEQ4
            go_wp2_with (at_builtin; refine wpList_app1K rfl (.tmp 36) (.tmp 38) 30 rfl 62 (.agg #[.int .i64 0, .slice none 0 0]) 2 32 Tryz.underlying30 info_Fact (by decide) (by decide) (by rfl) g1 (m + j) cap1 (rowC r (avs ++ avs1)) rfl HB4.out [.int .i64 r, .slice (some ⟨cb, co, none⟩) n cc] rfl (by simp [Value.oneCell']) (by first | rfl | (simp; rfl)) (by omega) ?_)
            intro g2 cap2 w5 hB5 ko5 hg2 hkeep5
            have hz1 : ∀ z ∈ [g1], W.heap.size ≤ z ∧ z ∉ cb :: bs1 := fun z hz => by
              simp at hz; subst hz
              refine ⟨by have := HNW.out; have := HB0.out.size; have := HG1.out.1; omega, fun hm => ?_⟩
              rcases List.mem_cons.1 hm with e | hm
              · exact hcbg1 e.symm
              · exact HD1.out.1 hm
            have hs5 : w2.heap.size + 1 ≤ w5.heap.size := by have h9 := ko5.size; rw [HSZ4.out] at h9; exact h9
            have hB5' : BuiltC 62 2 W0 w5 (.slice (some ⟨g2, 0, none⟩) (m + (j + 1)) cap2) (m + (j + 1)) (rowC r (avs ++ (avs1 ++ [.slice (some ⟨cb, co, none⟩) n cc]))) := by
              rw [← List.append_assoc, rowC_app]; exact hB5
            have R1 := Lib.hid hB5'
            have R2 := Lib.hid (hEO4.out.step ko5 hz1)
            have R3 : Hid (EAll W.heap.size w5 (avs1 ++ [.slice (some ⟨cb, co, none⟩) n cc]) (((spL x a i).take (j + 1)).map (fun l => l.set i 99)) (cb :: bs1)) := Lib.hid (by rw [HTK.out]; exact hEN4.out.step ko5 hz1)
            have R4 : Hid (g2 ∉ cb :: bs1 ∧ g ∉ cb :: bs1 ∧ g < w5.heap.size ∧ ∀ b ∈ cb :: bs1, W0.heap.size ≤ b ∧ b < w5.heap.size) := Lib.hid ⟨fun hm => by
                rcases List.mem_cons.1 hm with e | hm
                · rcases hg2 with e2 | e2
                  · exact hcbg1 (by rw [← e, e2])
                  · omega
                · rcases hg2 with e2 | e2
                  · rw [e2] at hm; exact HD1.out.1 hm
                  · have := (HD1.out.2.2.2 _ hm).2; have := HB1.out.2.size; have := HG1.out.2; omega,
              fun hm => by
                rcases List.mem_cons.1 hm with e | hm
                · exact hcbg e.symm
                · exact HD1.out.2.1 hm,
              by have := HD1.out.2.2.1; omega,
              fun b hb => by
                rcases List.mem_cons.1 hb with rfl | hb
                · exact ⟨hcbW, by omega⟩
                · have := HD1.out.2.2.2 b hb; exact ⟨this.1, by omega⟩⟩
            have R5 : Hid (∀ t, t < m * 2 → w5.cell? ⟨g, t, none⟩ = (rowC r avs)[t]?) := Lib.hid fun t ht => by
              by_cases e : g = g1
              · have hav : avs.length = m := by rw [HEO.out.1]; exact HM.out
                rw [e, hkeep5 t (by omega)]
                exact rowC_pre r avs avs1 t (by omega)
              · rw [← hOL4.out t ht]
                exact World.cell?_of_block (ko5.block g (by rw [HSZ4.out]; have := HD1.out.2.2.1; omega) (by simpa using e))
            have HJ9 : Hid (m + j + 1 = m + (j + 1)) := by unfold Hid; omega
            clear hB5 hB5' ko5 hg2 hkeep5 hz1 hs5 kc kf
            go_wp2_with fail
            exact ⟨⟨j + 1, g2, cap2, avs1 ++ [.slice (some ⟨cb, co, none⟩) n cc], cb :: bs1, by omega, by simp, rfl, R1, R2, R3, R4, R5⟩, by simp [intOf]; omega⟩
          · obtain rfl : j = m := by omega
            have hav : avs.length = j := by rw [HEO.out.1]; exact HM.out
            have hLn : (spL x a (i + 1)).length = j + j := by rw [HSL.out, List.length_append, List.length_map, HM.out]
            have hE9 : EAll W.heap.size wj (avs ++ avs1) (spL x a (i + 1)) bs1 := by
              rw [HSL.out]
              have h9 := HEN.out
              rw [← HM.out, List.take_length] at h9
              exact HEO.out.join h9
            have R1 := Lib.hid HB1.out
            have R2 := Lib.hid hE9
            have HLn := Lib.hid hLn
            clear hav hLn hE9
            go_wp2_with fail
            exact ⟨⟨i + 1, g1, cap1, avs ++ avs1, bs1, by omega, by simp, by rw [HLn.out], by rw [HLn.out]; exact R1, R2, ⟨HD1.out.1, HD1.out.2.2.2⟩⟩, by simp [intOf]; omega⟩
      · have q : (y != x) = true := bne_iff_ne.2 hy
        rw [if_neg hy] at HSL
        clear hy
        go_wp2_with fail
        refine ⟨⟨i + 1, g, cap, avs, bs, by omega, by simp, by rw [HSL.out], by rw [HSL.out]; exact HBI, by rw [HSL.out]; exact HEI, HDI⟩, by simp [intOf]; omega⟩
    · obtain rfl : i = n := by omega
      have hres : FRow W.heap.size wi (.slice (some ⟨g, 0, none⟩) (spL x a i).length cap) r (spL x a i) (g :: bs) := by
        obtain ⟨hc1, hc2⟩ : (spL x a i).length ≤ cap ∧ cap ≤ maxLen := by
          rcases HBI.out.form with ⟨e, _⟩ | ⟨g1, c1, e, q1, q2⟩
          · cases e
          · cases e; exact ⟨q1, q2⟩
        exact ⟨g, cap, avs, rfl, hc1, hc2, HBI.out.lt.2, by simp, fun j hj => HBI.out.cell j hj, HEI.out.more (fun b hb => List.mem_cons_of_mem _ hb)⟩
      have HRES := Lib.hid hres
      clear hres
      go_wp2_with fail
      go_ret
      refine ⟨_, g :: bs, rfl, by rw [HL.out]; exact HRES.out, fun b hb => ?_, bnext HB0.out HBI.out.2⟩
      have h0 := HB0.out.size
      rcases List.mem_cons.1 hb with rfl | hb
      · exact ⟨Nat.le_trans h0 HBI.out.lt.1, HBI.out.lt.2⟩
      · exact ⟨Nat.le_trans h0 (HDI.out.2 b hb).1, (HDI.out.2 b hb).2⟩
end Go.Proofs.YtnbljidjbknleaaGreat

/-! I11c -/
namespace Go.Proofs.YtnbljidjbknleaaGreat
open Go Go.Sort Go.RowKit
set_option linter.unusedVariables false

theorem OnlyAt.mixed11 {bs bs' : List Nat} {w0 w w' : World} (h : OnlyAt bs w0 w) (k : OnlyAt bs' w w') (hn : ∀ b ∈ bs', b ∈ bs ∨ w0.heap.size ≤ b) : OnlyAt bs w0 w' :=
  ⟨k.os.trans h.os, k.tape.trans h.tape, k.output.trans h.output, Nat.le_trans h.size k.size, fun i hi hm => (k.block i (Nat.lt_of_lt_of_le hi h.size) (fun hb => by
    rcases hn i hb with h9 | h9
    · exact hm h9
    · omega)).trans (h.block i hi hm)⟩

/-- The list behind an insertion: which blocks have been written, and where its row lies. -/
def InsE (W w w' : World) (p g : Nat) (l : List AtomD) : Prop := ∃ g1 cap1 bss1, LInv W w' p g1 cap1 l bss1 ∧ OnlyAt [p, g] w w' ∧ (g1 = g ∨ w.heap.size ≤ g1)
set_option maxRecDepth 100000 in
set_option maxHeartbeats 4000000 in
theorem iInsNoE_any (W w : World) (p g cap : Nat) (vf : Value) (l : List AtomD) (bss : List (List Nat)) (f : AtomD) (k : Nat) (h : LInv W w p g cap l bss) (hf : ∀ w1, OnlyAt [p, g] w w1 → RdAtom w1 vf f) (hp : Pos l f k) (hz : l.length ≤ 1048576) (hq : l[k]? = some f) :
    Calls Tryz.prog 85 #[.pointer (some ⟨p, 0, none⟩), vf] w (fun e w' => e = .returned (.bool false) ∧ LInv W w' p g cap l bss ∧ OnlyAt [p, g] w w') := by
  obtain ⟨fa, fn, fc, rfl, hfi, hfs⟩ := hf w (OnlyAt.refl _ _)
  have hbw := below_alloc w (.cells #[.int .i64 f.1, .slice fa fn fc] 62)
  have HB := Lib.hid hbw
  have HL := Lib.hid (h.grow hbw)
  have hcall := Lib.hid (iPlace_any W _ p g cap _ l bss f k (h.grow hbw) (hf _ (OnlyAt.ofBelow _ hbw)) hp hz)
  rw [decide_eq_true hq] at hcall
  clear h hf hfi hfs hbw hp hz hq
  generalize f.1 = r at *
  go_enter Tryz.func85, Tryz.ntmps85
  go_wp2_with fail
  refine hcall.out.mono ?_
  rintro e w2 ⟨rfl, hb2⟩
  have HB2 := Lib.hid hb2
  clear hb2
  go_wp2_with fail
  go_ret
  exact ⟨rfl, HL.out.grow HB2.out, OnlyAt.ofBelow _ (bnext HB.out HB2.out)⟩

set_option maxRecDepth 100000 in
set_option maxHeartbeats 8000000 in
theorem iInsE_any (W w : World) (p g cap : Nat) (vf : Value) (l : List AtomD) (bss : List (List Nat)) (f : AtomD) (k : Nat) (h : LInv W w p g cap l bss) (hf : ∀ w1, OnlyAt [p, g] w w1 → RdAtom w1 vf f) (hfz : f.2.length ≤ 1048576) (hp : Pos l f k) (hz : l.length ≤ 1048576) (hq : l[k]? ≠ some f) :
    Calls Tryz.prog 85 #[.pointer (some ⟨p, 0, none⟩), vf] w (fun e w' => e = .returned (.bool true) ∧ InsE W w w' p g (l.take k ++ f :: l.drop k)) := by
  have hF := Lib.hid hf
  obtain ⟨fa, fn, fc, rfl, hfi, hfs⟩ := hf w (OnlyAt.refl _ _)
  have hbw := below_alloc w (.cells #[.int .i64 f.1, .slice fa fn fc] 62)
  obtain ⟨cs, hr⟩ := LRow.of (h.grow hbw)
  have HR := Lib.hid hr
  have hcall := Lib.hid (iPlace_any W _ p g cap _ l bss f k (h.grow hbw) (hF.out _ (OnlyAt.ofBelow _ hbw)) hp hz)
  rw [decide_eq_false hq] at hcall
  have hpw : p < w.heap.size := h.2.2.2.2.2.2
  have hgw : g < w.heap.size := by obtain ⟨cs, hr⟩ := LRow.of h; exact hr.1.lt.2
  have hkl := hp.1
  have HCL := Lib.hid hr.1.len
  have kf0 : (w.alloc (.cells #[.int .i64 f.1, .slice fa fn fc] 62)).cell? ⟨w.heap.size, 0, none⟩ = some (.int .i64 f.1) := by simp
  have kf1 : (w.alloc (.cells #[.int .i64 f.1, .slice fa fn fc] 62)).cell? ⟨w.heap.size, 1, none⟩ = some (.slice fa fn fc) := by simp
  have KF0 := Lib.hid kf0
  have KF1 := Lib.hid kf1
  obtain ⟨q, hqq⟩ : ∃ q, q = w.heap.size := ⟨_, rfl⟩
  obtain ⟨n, hn⟩ : ∃ n, l.length = n := ⟨_, rfl⟩
  have HN := Lib.hid hn
  rw [hn] at hkl hz HCL HR
  have hbw9 := hbw
  clear h hf hfi hfs hbw hp hq hr hn kf0 kf1
  generalize hgr : f.1 = r at *
  have HGR := Lib.hid hgr
  clear hgr
  obtain ⟨w1, hw1⟩ : ∃ w1, w1 = w.alloc (.cells #[.int .i64 r, .slice fa fn fc] 62) := ⟨_, rfl⟩
  have HW1 := Lib.hid hw1
  rw [← hw1] at hbw9
  have HBW9 := Lib.hid hbw9
  clear hbw9
  rw [← hw1, ← hqq] at KF0 KF1
  rw [← hw1] at HR hcall
  rw [← hqq] at hpw hgw
  clear hw1
  go_enter Tryz.func85, Tryz.ntmps85
  go_wp2_with fail
  simp only [← hqq]
  rw [← HW1.out]
  refine hcall.out.mono ?_
  rintro e w2 ⟨rfl, hb2⟩
  have HR2 := Lib.hid (HR.out.grow hb2)
  have HON2 : Hid (OnlyAt [p, g] w w2) := Lib.hid (OnlyAt.ofBelow _ (bnext HBW9.out hb2))
  have HWS2 : Hid (w.heap.size ≤ w2.heap.size) := Lib.hid (bnext HBW9.out hb2).size
  have kp := HR2.out.2.2.1
  have KF02 := Lib.hid (cellk hb2 KF0.out)
  have KF12 := Lib.hid (cellk hb2 KF1.out)
  have hqlt : q < w2.heap.size := by
    have := hb2.size
    have h1 : w1.heap.size = w.heap.size + 1 := by rw [HW1.out]; simp
    omega
  clear hb2 hqq HW1 hcall HR KF0 KF1
  have HOW := Lib.hid HR2.out.1
  go_wp2_with (at_builtin; go_loud (refine wpList_app1D rfl (.tmp 18) (.tmp 20) 30 rfl 62 (.agg #[.int .i64 0, .slice none 0 0]) 2 32 Tryz.underlying30 info_Fact (by decide) (by decide) (by rfl) _ n cs rfl HOW.out [.int .i64 0, .slice none 0 0] rfl (by simp [Value.oneCell']) (by first | rfl | (simp; rfl)) (by omega) ?_))
  intro v' w3 hown' ko hbl
  obtain ⟨g1, cap1, rfl, hc1, hc2, hg1, ⟨u, hu⟩, hfz3, hr4⟩ := LRow.app HR2.out hown' ko hbl
  have HG19 : Hid (g1 = g ∨ w.heap.size ≤ g1) := by
    rcases hbl g1 (by simp [blk]) with h9 | h9
    · simp [blk] at h9; exact .inl h9
    · exact .inr (Nat.le_trans HWS2.out h9)
  have HON3 := Lib.hid (HON2.out.mixed11 ko (fun b hb => by simp [blk] at hb; subst hb; exact .inl (by simp)))
  have hqg : q ∉ blk (.slice (some ⟨g, 0, none⟩) n cap) := by simp [blk]; omega
  have hqg1 : q ≠ g1 := by omega
  have KF03 := Lib.hid (ko.cell hqg KF02.out)
  have KF13 := Lib.hid (ko.cell hqg KF12.out)
  have HR4 := Lib.hid hr4
  clear hown' ko hbl hr4 kp hqg HOW KF02 KF12 HR2
  go_wp2_with fail
  obtain ⟨w4, hw4⟩ : ∃ w4, w4 = w3.setCell ⟨p, 0, none⟩ (.slice (some ⟨g1, 0, none⟩) (n + 1) cap1) := ⟨_, rfl⟩
  have ko4 := OnlyAt.setCell w3 p 0 (.slice (some ⟨g1, 0, none⟩) (n + 1) cap1)
  rw [← hw4] at HR4 ko4 ⊢
  have HON4 := Lib.hid (HON3.out.mixed11 ko4 (fun b hb => by simp at hb; subst hb; exact .inl (by simp)))
  have hqp : q ∉ [p] := by simp; omega
  have KF04 := Lib.hid (ko4.cell hqp KF03.out)
  have KF14 := Lib.hid (ko4.cell hqp KF13.out)
  clear hw4 ko4 KF03 KF13 hu hfz3 hqp
  obtain ⟨V, hV⟩ : ∃ V, V = { w4 with drawn := w4.drawn + 1 } := ⟨_, rfl⟩
  have hbV : Below w4.heap.size w4 V := by rw [hV]; exact (Below.refl _ _).drew
  have HRV := Lib.hid (HR4.out.grow hbV)
  have HONV := Lib.hid (HON4.out.mixed11 (OnlyAt.ofBelow [] hbV) (fun b hb => by cases hb))
  have KF0V := Lib.hid (cellk hbV KF04.out)
  have KF1V := Lib.hid (cellk hbV KF14.out)
  have kp := HRV.out.2.2.1
  clear hbV KF04 KF14 HR4
  unfold maxLen at hc2
  have hk1 : (k : Int) + 1 ≤ (n : Int) + 1 := by omega
  have hk0 : (0 : Int) ≤ (k : Int) + 1 := by omega
  have hk2 : (k : Int) ≤ (n : Int) + 1 := by omega
  have hk3 : (0 : Int) ≤ (k : Int) := by omega
  have hwr : IntKind.i64.wrap ((k : Int) + 1) = (k : Int) + 1 := by rw [IntKind.wrap_i64]; omega
  refine wp_region_still_tail 13 (by kernel_rfl) (by kernel_rfl) ?_
  simp only [List.take_succ_cons, List.take_zero, List.drop_succ_cons, List.drop_zero]
  rw [← hV]
  clear hV
  repeat still_step
  refine wpStill_nil ?_
  generalize hd1 : (ite (cap1 = k + 1) _ _ : Option Addr) = d1
  generalize hd2 : (ite (cap1 = k) _ _ : Option Addr) = d2
  have HD1 : Hid (0 < n - k → d1 = some ⟨g1, (k + 1) * 2, none⟩) := fun h => by rw [← hd1, if_neg (by omega)]
  have HD2 : Hid (0 < n - k → d2 = some ⟨g1, k * 2, none⟩) := fun h => by rw [← hd2, if_neg (by omega)]
  clear hd1 hd2
  have HONE : Hid (∀ u ∈ cs ++ [.int .i64 0, .slice none 0 0], u.oneCell' = true) := fun u hu => by
    rcases List.mem_append.1 hu with hu | hu
    · exact HRV.out.2.1.one (by rw [HCL.out, HN.out]) u hu
    · simp at hu; rcases hu with rfl | rfl <;> simp [Value.oneCell']
  refine wpList_copy_C rfl (.tmp 30) (.tmp 36) 30 30 rfl 62 (.agg #[.int .i64 0, .slice none 0 0]) 2 32 Tryz.underlying30 info_Fact g1 (n + 1) cap1 _ HRV.out.1 HONE.out _ _ _ _ _ _ rfl rfl (k + 1) k (n - k) (by show min (n + 1 - k) (n - k) = n - k; omega) (fun h => ⟨HD1.out h, HD2.out h⟩) (by omega) (by omega) ?_
  intro w5 hB5 ko5
  have HR5 := Lib.hid (HRV.out.row hB5 ko5)
  have HG9 : Hid (∀ b ∈ [g1], b ∈ [p, g] ∨ w.heap.size ≤ b) := Lib.hid fun b hb => by
    simp at hb; subst hb
    rcases HG19.out with h9 | h9
    · exact .inl (by simp [h9])
    · exact .inr h9
  have HON5 := Lib.hid (HONV.out.mixed11 ko5 HG9.out)
  have hqg : q ∉ [g1] := by simpa using hqg1
  have KF05 := Lib.hid (ko5.cell hqg KF0V.out)
  have KF15 := Lib.hid (ko5.cell hqg KF1V.out)
  clear hB5 ko5 hqg kp HRV KF0V KF1V hwr HD1 HD2 HONE
  go_wp2_with fail
  have HBW5 := Lib.hid HR5.out.below
  have kp := HR5.out.2.2.1
  have k0 := KF05.out
  have k1 := KF15.out
  have hi1 : (k : Int) < (n : Int) + 1 := by omega
  have HCP := Lib.hid (fun w' (hb : Below w5.heap.size w5 w') => iCopyF_any w' _ f (hF.out _ (HON5.out.mixed11 (OnlyAt.ofBelow [] hb) (fun b hb => by cases hb))) hfz)
  have hrow : ∀ w', Below w5.heap.size w5 w' → (∃ x, w'.cell? ⟨g1, k * 2, none⟩ = some x) ∧ (∃ x, w'.cell? ⟨g1, k * 2 + 1, none⟩ = some x) ∧ w'.frozen? ⟨g1, k * 2, none⟩ = false ∧ w'.frozen? ⟨g1, k * 2 + 1, none⟩ = false := fun w' hb => by
    have h1 := (HR5.out.grow hb).1
    have hl := h1.len
    refine ⟨⟨_, (h1.cell _ (by omega)).trans (List.getElem?_eq_getElem (by omega))⟩, ⟨_, (h1.cell _ (by omega)).trans (List.getElem?_eq_getElem (by omega))⟩, h1.frozen _, h1.frozen _⟩
  have HROW := Lib.hid hrow
  clear hrow
  unfold GaveO at HCP
  go_region_law (first
    | (go_simp; go_at_call 103; refine (HCP.out _ ((Below.refl w5.heap.size w5).drew)).mono ?_; rintro e2 w7 ⟨vb, bsb, rfl, hob, hfb, hbb⟩; obtain ⟨va, vn, vc, rfl, hvi, hvo⟩ := hob; have hbl := bnext (Below.refl w5.heap.size w5).drew hbb; have q0 := cellk hbl kp; obtain ⟨⟨x0, z0⟩, ⟨x1, z1⟩, f0, f1⟩ := HROW.out w7 hbl; have HBL := Lib.hid hbl; have HOB := Lib.hid hvo; have HVI := Lib.hid hvi; have HFB : Hid (Fresh w5 w7 bsb) := ⟨hfb.1, fun b hb' => ⟨by have := (hfb.2 b hb').1; simpa using this, (hfb.2 b hb').2⟩⟩; clear hvo hvi hfb hbb hbl))
  all_goals (go_wp2_with fail)
  all_goals
    go_ret
    refine ⟨rfl, g1, cap1, bss.take k ++ bsb :: bss.drop k, ?_, ((HON5.out.mixed11 (OnlyAt.ofBelow [g1] HBL.out) HG9.out).mixed11 (OnlyAt.setCell _ _ _ _) HG9.out).mixed11 (OnlyAt.setCell _ _ _ _) HG9.out, HG19.out⟩
    have := LRow.ins (r := f.1) (li := f.2) HR5.out HN.out HCL.out hkl HBL.out HVI.out HOB.out HFB.out (ins_row cs k n HCL.out hkl _ _ _ _)
    exact this

theorem LInv.parts {W w : World} {p g cap : Nat} {l : List AtomD} {bss : List (List Nat)} (h : LInv W w p g cap l bss) : W.heap.size ≤ p ∧ p < w.heap.size ∧ W.heap.size ≤ g ∧ g < w.heap.size := by
  obtain ⟨cs, hr⟩ := LRow.of h
  exact ⟨h.2.2.2.2.2.1, h.2.2.2.2.2.2, hr.1.lt.1, hr.1.lt.2⟩
theorem emptyA11 (w : World) : RdAtomS w (.slice none 0 0) [] := ⟨none, 0, 0, rfl, none, 0, 0, rfl, rfl, Nat.le_refl _, Nat.zero_le _, fun h => by omega⟩
theorem prRow_len {x : Int} {f : AtomD} {o : List AtomD} : ∀ j, (prRow x f o j).length ≤ o.length + j
  | 0 => by rw [prRow_0]; omega
  | j + 1 => by
    have ih := prRow_len (x := x) (f := f) (o := o) j
    cases hj : (spL x f.2 f.2.length)[j]? with
    | none =>
      have e : prRow x f o (j + 1) = prRow x f o j := by
        unfold prRow
        rw [List.take_add_one, hj]; simp
      rw [e]; omega
    | some a =>
      rw [prRow_succ hj]
      have := putF_len (prRow x f o j) (f.1, a)
      omega
theorem prN_len {db : List AtomD} {x : Int} (h3 : ∀ f ∈ db, f.2.length ≤ 3) : ∀ i, i ≤ db.length → (prN db x i).length ≤ i * 8
  | 0, _ => by rw [prN_0]; simp
  | i + 1, hi => by
    have ih := prN_len (x := x) h3 i (by omega)
    have hf : db[i]? = some db[i] := List.getElem?_eq_getElem (by omega)
    rw [prN_succ hf]
    have h1 := prRow_len (x := x) (f := db[i]) (o := prN db x i) (spL x db[i].2 db[i].2.length).length
    have h2 := spL_len x db[i].2 db[i].2.length
    have h4 := h3 _ (List.mem_of_getElem? hf)
    have h5 : (2 : Nat) ^ db[i].2.length ≤ 2 ^ 3 := Nat.pow_le_pow_right (by omega) h4
    have h6 : (2 : Nat) ^ 3 = 8 := rfl
    omega

set_option maxRecDepth 100000 in
set_option maxHeartbeats 16000000 in
theorem iSplitFs_any (w : World) (vd : Value) (db : List AtomD) (x : Int) (h : RdAtomS w vd db) (h3 : ∀ f ∈ db, f.2.length ≤ 3) (hz : db.length ≤ 1000) :
    Calls Tryz.prog 56 #[vd, .int .i64 x] w (fun e w' => ∃ v bs, e = .returned v ∧ ROAtomS w' v (prN db x db.length) bs ∧ Fresh w w' bs ∧ Below w.heap.size w w') := by
  obtain ⟨da, n, dc, rfl, h⟩ := h
  obtain ⟨hl, hn, hm, hcell⟩ := h.at
  unfold maxLen at hm
  have HC := Lib.hid hcell
  have HL := Lib.hid hl
  have H3 := Lib.hid h3
  have hN := Lib.hid (fun w => iNewL_any w (.slice none 0 0) [] (emptyA11 w) (by unfold sizeAtomS sumArgs; simp))
  have hS := Lib.hid (fun w2 r x va a b1 b2 b3 b4 => iSplitF_any w w2 r x va a b1 b2 b3 b4)
  have hIN := Lib.hid (fun w4 p g cap vf l bss f k b1 b2 b3 b4 b5 => iInsNoE_any w w4 p g cap vf l bss f k b1 b2 b3 b4 b5)
  have hIY := Lib.hid (fun w4 p g cap vf l bss f k b1 b2 b3 b4 b5 b6 => iInsE_any w w4 p g cap vf l bss f k b1 b2 b3 b4 b5 b6)
  have hn1000 : n ≤ 1000 := by omega
  clear h hcell hl h3 hz
  go_enter Tryz.func56, Tryz.ntmps56
  go_wp2_with fail
  refine (hN.out _).mono ?_
  rintro e w1 ⟨p, g, cap, bss, rfl, hL⟩
  have HL1 := Lib.hid hL
  clear hL hN
  go_wp2_with fail
  go_loopw [13] (fun iv wr => ∃ (i g cap : Nat) (bss : List (List Nat)), i ≤ n ∧ iv = .int .i64 i ∧ Hid (LInv w wr p g cap (prN db x i) bss)) (fun iv _ => n - (intOf iv).toNat)
  case atStart => exact ⟨0, g, cap, bss, by omega, rfl, by rw [prN_0]; exact HL1⟩
  case round =>
    obtain ⟨wi, hwi⟩ : ∃ z, z = wr := ⟨_, rfl⟩
    subst hwi
    obtain ⟨i, gi, ci, bi, hi, rfl, HI⟩ := hrel
    by_cases hlt : i < n
    · obtain ⟨b, off, rfl, hdw, hdc⟩ := HC.out (by omega)
      obtain ⟨f, hff⟩ : ∃ e, db[i]? = some e := ⟨db[i]'(by rw [HL.out]; exact hlt), List.getElem?_eq_getElem (by rw [HL.out]; exact hlt)⟩
      obtain ⟨fa, fm, fc, c0', c1', hfi, fints⟩ := atomAt (n := n) hdc i f hff
      have hbi := HI.out.below
      have c0 := cellk hbi c0'
      have c1 := cellk hbi c1'
      have HFF := Lib.hid hff
      have HFI := Lib.hid hfi
      have HFT := Lib.hid fints
      have hf3 := H3.out f (List.mem_of_getElem? hff)
      have hi0 : (0 : Int) ≤ i := by omega
      have hi1 : (i : Int) < n := by omega
      obtain ⟨w2, hw2⟩ : ∃ z, z = wi.alloc (.cells #[.int .i64 f.1, .slice fa fm fc] 62) := ⟨_, rfl⟩
      have HB2 : Hid (Below wi.heap.size wi w2) := Lib.hid (by rw [hw2]; exact below_alloc _ _)
      have hcall := Lib.hid (hS.out w2 f.1 x (.slice fa fm fc) f.2 hfi (bnext hbi HB2.out) fints hf3)
      have HASC := Lib.hid (prN_ok (db := db) (v := x) i (by rw [HL.out]; omega)).1
      have HPL := Lib.hid (prN_len (x := x) H3.out i (by rw [HL.out]; omega))
      have HNX := Lib.hid (prN_succ (v := x) hff)
      have HSPL := Lib.hid (spL_len x f.2 f.2.length)
      have HSPA := Lib.hid (spL_all x f.2 f.2.length)
      have hp8 : (2 : Nat) ^ f.2.length ≤ 2 ^ 3 := Nat.pow_le_pow_right (by omega) hf3
      have hp9 : (2 : Nat) ^ 3 = 8 := rfl
      have HP8 := Lib.hid (Nat.le_trans HSPL.out (Nat.le_trans hp8 (Nat.le_of_eq hp9)))
      obtain ⟨r, hr⟩ : ∃ r, f.1 = r := ⟨_, rfl⟩
      have HR := Lib.hid hr
      rw [hr] at c0 hcall hw2
      clear hdc hdw hff hfi fints c0' c1' hbi hr hp8 hp9
      go_wp2_with fail
      rw [← hw2]
      refine hcall.out.mono ?_
      rintro e w3 ⟨v, bs, rfl, hfr, hbs, hb3⟩
      have HI3 := Lib.hid ((HI.out.grow HB2.out).grow hb3)
      obtain ⟨gs, cs, avs, rfl, hq1, hq2, hgs, hgsb, hcells, hea⟩ := hfr
      obtain ⟨m, hm⟩ : ∃ m, (spL x f.2 f.2.length).length = m := ⟨_, rfl⟩
      have HM := Lib.hid hm
      have hm8 : m ≤ 8 := by rw [← hm]; exact HP8.out
      rw [hm] at hcells hq1
      have HCE := Lib.hid hcells
      have HEA := Lib.hid hea
      have HD3 : Hid (∀ z ∈ bs, z ≠ p ∧ z ≠ gi) := Lib.hid fun z hz => by
        have h1 := (hbs z hz).1
        have h2 := HI.out.parts
        have h4 := HB2.out.size
        omega
      have HLB : Hid (∀ z ∈ bs, z < w3.heap.size) := Lib.hid fun z hz => (hbs z hz).2
      unfold maxLen at hq2
      rw [hm]
      have HGS := Lib.hid hgsb
      clear hcells hea hbs hb3 hm hw2 hcall hgs c0 c1 hgsb
      go_wp2_with fail
      go_loopw [21] (fun jv wr => ∃ (j gj cj : Nat) (bj : List (List Nat)), j ≤ m ∧ jv = .int .i64 j ∧ Hid (LInv w wr p gj cj (prRow x f (prN db x i) j) bj) ∧ Hid (∀ t, t < m * 2 → wr.cell? ⟨gs, t, none⟩ = (rowC r avs)[t]?) ∧ Hid (EAll w.heap.size wr avs (spL x f.2 f.2.length) bs) ∧ Hid (∀ z ∈ bs, z ≠ p ∧ (z = gj → False)) ∧ w3.heap.size ≤ wr.heap.size ∧ Hid (gj = gi ∨ w3.heap.size ≤ gj)) (fun jv _ => m - (intOf jv).toNat)
      case atStart => exact ⟨0, gi, ci, bi, by omega, rfl, by rw [prRow_0]; exact HI3, HCE, HEA, fun z hz => ⟨(HD3.out z hz).1, fun e => (HD3.out z hz).2 e⟩, Nat.le_refl _, .inl rfl⟩
      case round =>
        obtain ⟨wj, hwj⟩ : ∃ z, z = wr := ⟨_, rfl⟩
        subst hwj
        obtain ⟨j, gj, cj, bj, hj, rfl, HJ, HCJ, HEJ, HDJ, hsj, HGJ⟩ := hrel
        have hbj : Below w.heap.size w wj := HJ.out.below
        by_cases hltj : j < m
        · have hav : avs.length = m := by rw [HEJ.out.1]; exact HM.out
          obtain ⟨av, havj⟩ : ∃ av, avs[j]? = some av := ⟨avs[j]'(by omega), List.getElem?_eq_getElem (by omega)⟩
          obtain ⟨l, hlj⟩ : ∃ l, (spL x f.2 f.2.length)[j]? = some l := ⟨(spL x f.2 f.2.length)[j]'(by rw [HM.out]; exact hltj), List.getElem?_eq_getElem (by rw [HM.out]; exact hltj)⟩
          obtain ⟨⟨ea, en, ec, rfl⟩, hie⟩ := HEJ.out.2 j av l havj hlj
          obtain ⟨r0, r1⟩ := rowC_at r avs j _ havj
          have c0 := (HCJ.out (j * 2) (by omega)).trans r0
          have c1 := (HCJ.out (j * 2 + 1) (by omega)).trans r1
          have hj0 : (0 : Int) ≤ j := by omega
          have hj1 : (j : Int) < m := by omega
          have hll : l.length ≤ 1048576 := by
            rw [HSPA.out l (List.mem_of_getElem? hlj)]
            have := H3.out f (List.mem_of_getElem? HFF.out)
            omega
          obtain ⟨w4, hw4⟩ : ∃ z, z = wj.alloc (.cells #[.int .i64 r, .slice ea en ec] 62) := ⟨_, rfl⟩
          have HB4 : Hid (Below wj.heap.size wj w4) := Lib.hid (by rw [hw4]; exact below_alloc _ _)
          have hasc := (prRow_ok (v := x) (f := f) HASC.out j).1
          obtain ⟨k, hk⟩ := pos_of hasc (r, l)
          have hplen : (prRow x f (prN db x i) j).length ≤ 1048576 := by
            have := prRow_len (x := x) (f := f) (o := prN db x i) j
            have := HPL.out
            omega
          have hparts := HJ.out.parts
          have hf : ∀ w1, OnlyAt [p, gj] w4 w1 → RdAtom w1 (.agg #[.int .i64 r, .slice ea en ec]) (r, l) := fun w1 ko => by
            refine ⟨ea, en, ec, rfl, by rw [← HR.out]; exact HFI.out, (hie.grow HB4.out) w1 [p, gj] ko (fun z hz => ?_)⟩
            simp at hz
            rcases hz with rfl | rfl
            · exact ⟨hparts.1, fun hm => (HDJ.out z hm).1 rfl⟩
            · exact ⟨hparts.2.2.1, fun hm => (HDJ.out z hm).2 rfl⟩
          have hpn : prRow x f (prN db x i) (j + 1) = putF (prRow x f (prN db x i) j) (r, l) := by rw [prRow_succ hlj, HR.out]
          have HKEEP : Hid (∀ w5, OnlyAt [p, gj] w4 w5 → (∀ t, t < m * 2 → w5.cell? ⟨gs, t, none⟩ = (rowC r avs)[t]?) ∧ EAll w.heap.size w5 avs (spL x f.2 f.2.length) bs ∧ w3.heap.size ≤ w5.heap.size) := Lib.hid fun w5 ko => by
            have ko' : OnlyAt [p, gj] wj w5 := (OnlyAt.ofBelow [p, gj] HB4.out).same ko
            have hz1 : ∀ z ∈ [p, gj], w.heap.size ≤ z ∧ z ∉ bs := fun z hz => by
              simp at hz
              rcases hz with rfl | rfl
              · exact ⟨hparts.1, fun hm => (HDJ.out z hm).1 rfl⟩
              · exact ⟨hparts.2.2.1, fun hm => (HDJ.out z hm).2 rfl⟩
            refine ⟨fun t ht => ?_, HEJ.out.step ko' hz1, Nat.le_trans hsj ko'.size⟩
            rw [← HCJ.out t ht]
            have hgl : gs < wj.heap.size := Nat.lt_of_lt_of_le (HLB.out gs HGS.out) hsj
            exact World.cell?_of_block (ko'.block gs hgl (fun hm => (hz1 gs hm).2 HGS.out))
          by_cases hq : (prRow x f (prN db x i) j)[k]? = some (r, l)
          · have hin : (r, l) ∈ prRow x f (prN db x i) j := (pos_mem hasc hk).2 hq
            have hcall := Lib.hid (hIN.out w4 p gj cj _ _ bj (r, l) k (HJ.out.grow HB4.out) hf hk hplen hq)
            have HPN : Hid (prRow x f (prN db x i) (j + 1) = prRow x f (prN db x i) j) := Lib.hid (by rw [hpn, putF_there hasc hin])
            clear hav havj hlj hie r0 r1 hll hasc hk hplen hparts hf hpn hq hin hbj
            go_wp2_with fail
            rw [← hw4]
            clear hw4 c0 c1
            refine hcall.out.mono ?_
            rintro e w5 ⟨rfl, hL5, ko5⟩
            obtain ⟨q1, q2, q3⟩ := HKEEP.out w5 ko5
            have Q1 := Lib.hid q1
            have Q2 := Lib.hid q2
            have HL5 := Lib.hid hL5
            clear q1 q2 hL5 ko5 hcall HKEEP
            go_wp2_with fail
            exact ⟨⟨j + 1, gj, cj, bj, by omega, by simp, by rw [HPN.out]; exact HL5, Q1, Q2, HDJ, q3, HGJ⟩, by simp [intOf]; omega⟩
          · have hnin : (r, l) ∉ prRow x f (prN db x i) j := fun hm => hq ((pos_mem hasc hk).1 hm)
            have hcall := Lib.hid (hIY.out w4 p gj cj _ _ bj (r, l) k (HJ.out.grow HB4.out) hf hll hk hplen hq)
            have HPN : Hid (prRow x f (prN db x i) (j + 1) = (prRow x f (prN db x i) j).take k ++ (r, l) :: (prRow x f (prN db x i) j).drop k) := Lib.hid (by rw [hpn, putF_pos hk hnin])
            have HS4 : Hid (w3.heap.size ≤ w4.heap.size) := Lib.hid (Nat.le_trans hsj HB4.out.size)
            clear hav havj hlj hie r0 r1 hll hasc hk hplen hparts hf hpn hq hnin hbj
            go_wp2_with fail
            rw [← hw4]
            clear hw4 c0 c1
            refine hcall.out.mono ?_
            rintro e w5 ⟨rfl, g5, c5, b5, hL5, ko5, hg5⟩
            obtain ⟨q1, q2, q3⟩ := HKEEP.out w5 ko5
            have Q1 := Lib.hid q1
            have Q2 := Lib.hid q2
            have HL5 := Lib.hid hL5
            have HG5 : Hid (g5 = gi ∨ w3.heap.size ≤ g5) := Lib.hid (by
              rcases hg5 with e5 | e5
              · rw [e5]; exact HGJ.out
              · exact .inr (Nat.le_trans HS4.out e5))
            have HD5 : Hid (∀ z ∈ bs, z ≠ p ∧ (z = g5 → False)) := Lib.hid fun z hz => ⟨(HD3.out z hz).1, fun e5 => by
              rcases HG5.out with e6 | e6
              · exact (HD3.out z hz).2 (e5.trans e6)
              · have := HLB.out z hz; omega⟩
            clear q1 q2 hL5 ko5 hcall HKEEP hg5
            go_wp2_with fail
            exact ⟨⟨j + 1, g5, c5, b5, by omega, by simp, by rw [HPN.out]; exact HL5, Q1, Q2, HD5, q3, HG5⟩, by simp [intOf]; omega⟩
        · obtain rfl : j = m := by omega
          have HE9 : Hid (prN db x (i + 1) = prRow x f (prN db x i) j) := Lib.hid (by rw [HNX.out, HM.out])
          clear hbj
          go_wp2_with fail
          exact ⟨⟨i + 1, gj, cj, bj, by omega, by simp, by rw [HE9.out]; exact HJ⟩, by simp [intOf]; omega⟩
    · obtain rfl : i = n := by omega
      have kp := HI.out.2.1
      have HB9 := Lib.hid HI.out.below
      have hdone := Lib.hid HI.out.1.done
      rw [← HL.out] at kp hdone ⊢
      go_wp2_with fail
      go_ret
      obtain ⟨bs0, hro, hfr⟩ := hdone.out
      exact ⟨_, bs0, rfl, hro, hfr, HB9.out⟩
end Go.Proofs.YtnbljidjbknleaaGreat

/-! I11d -/
namespace Go.Proofs.YtnbljidjbknleaaGreat
open Go Go.Sort Go.RowKit
set_option linter.unusedVariables false

/-- The lists that witnessesOf gives. -/
def wsL (q : QueryD) : List (List AtomD) := frzDb q :: (varsTo q 20).map (fun v => prN (frzDb q) (80 + v) (frzDb q).length)
theorem frzDb_asc (q : QueryD) : Asc (frzDb q) := by
  cases h : frzOk q
  · rw [frzDb_no h]; intro i j h1 h2; simp at h2
  · rw [frzDb_yes h]; exact (frzTo_ok q.2 q.2.length (Nat.le_refl _)).1
theorem twN_id {db : List AtomD} {v : Int} (h : Asc db) (hn : ∀ f ∈ db, v ∉ f.2) (i : Nat) (hi : i ≤ db.length) : twN db v i = db := by
  obtain ⟨b1, b2⟩ := twN_ok (v := v) h i hi
  refine strictF_unique b1.strict h.strict (fun x => ?_)
  rw [b2]
  constructor
  · rintro (hx | ⟨f, hf, m, hm, rfl⟩)
    · exact hx
    · have hf' := List.mem_of_mem_take hf
      have e : twF v m f = f := by
        unfold twF twA
        have : f.2.mapIdx (twX v m) = f.2 := by
          refine List.ext_getElem (by simp) (fun t h1 h2 => ?_)
          rw [List.getElem_mapIdx]
          unfold twX
          rw [if_neg (fun hc => hn f hf' (by rw [← hc.1]; exact List.getElem_mem h2))]
        rw [this]
      rw [e]; exact hf'
  · exact .inl
theorem bwT_no {q : QueryD} {k : Nat} (hk : k < 20) (h : (k : Int) ∉ bodyVars q.2) : bwT q k = frzDb q := by
  unfold bwT
  refine twN_id (frzDb_asc q) (fun f hf hm => ?_) _ (Nat.le_refl _)
  cases hz : frzOk q
  · rw [frzDb_no hz] at hf; cases hf
  · rw [frzDb_yes hz] at hf
    obtain ⟨a, ha, rfl⟩ := ((frzTo_ok q.2 q.2.length (Nat.le_refl _)).2.1 f).1 hf
    rw [List.take_length] at ha
    have ht := terms_all ((frz_parts hz).2.2 a ha)
    obtain ⟨t, hta, hte⟩ := List.mem_map.1 (show val8 (k : Int) ∈ a.2.map val8 from hm)
    have h1 := (val8_of (List.all_eq_true.1 ht t hta)).2.2
    have h2 := (val8_of (val_term k hk)).2.2
    rw [hte, h2] at h1
    apply h
    have h3 := mem_bodyVars q.2 (k : Int) (by omega)
    have h4 : mentB q.2 (k : Int) = true := List.any_eq_true.2 ⟨a, ha, decide_eq_true (by rw [h1]; exact hta)⟩
    rw [h4] at h3
    exact of_decide_eq_true h3
theorem bwT_pr (q : QueryD) (k : Nat) : prN (frzDb q) (80 + (k : Int)) (frzDb q).length = bwT q k := by
  unfold bwT
  rw [prN_tw (frzDb_asc q) (frzDb_3 q), val8_pos (by omega)]
theorem find_to (s : List Int) (a b q : QueryD) (h0 : difB s a b (frzDb q) = false) : ∀ k, k ≤ 20 → ((varsTo q k).map (fun v => prN (frzDb q) (80 + v) (frzDb q).length)).find? (difB s a b) = ((List.range k).map (bwT q)).find? (difB s a b)
  | 0, _ => by simp [varsTo]
  | k + 1, hk => by
    have ih := find_to s a b q h0 k (by omega)
    rw [List.range_succ, List.map_append, List.find?_append, ← ih]
    cases hc : (decide ((k : Int) ∈ bodyVars q.2) || decide ((k : Int) ∈ q.1)) with
    | true =>
      rw [varsTo_yes hc, List.map_append, List.find?_append]
      simp only [List.map_cons, List.map_nil, bwT_pr]
    | false =>
      rw [varsTo_no hc]
      rw [Bool.or_eq_false_iff] at hc
      have e := bwT_no (q := q) (by omega : k < 20) (of_decide_eq_false hc.1)
      simp [e, h0]
theorem find_ws (s : List Int) (a b q : QueryD) : (wsL q).find? (difB s a b) = bwL s a b q := by
  unfold wsL bwL
  rw [List.find?_cons]
  cases h : difB s a b (frzDb q) with
  | true => simp
  | false => simp [find_to s a b q h 20 (Nat.le_refl _)]
theorem varsTo_lt (q : QueryD) : ∀ k, ∀ v ∈ varsTo q k, 0 ≤ v ∧ v < k
  | 0 => by simp [varsTo]
  | k + 1 => by
    have ih := varsTo_lt q k
    intro v hv
    unfold varsTo at hv
    split at hv
    · rcases List.mem_append.1 hv with hv | hv
      · have := ih v hv; omega
      · simp at hv; omega
    · have := ih v hv; omega

section
variable {P : Program}
/-- A row of cells appended to a row that the call builds. -/
theorem wpList_appC11 {w w0 : World} {ops : Array Oper} {rest : List Oper} {o : Oper} {a : Act} {Q : Exit → Act → World → Prop} (hgd : o.guard = none) (s x : Operand) (t : TypeId)
    (ho : o.op = .call { callee := .builtin .append, args := #[s, x], argTypes := #[t, t] })
    (E : TypeId) (z : Value) (size bytes : Nat) (ht : P.underlying t = some (.slice E)) (hinfo : (P.info? E).map (fun i => (i.zero, i.size, i.bytes)) = some (some z, size, bytes)) (h8 : bytes ≤ 128) (hsz : 0 < size) (hzs : z.cells.size = size)
    (v : Value) (n : Nat) (cs : List Value) (hs : a.eval s = v) (hown : BuiltC E size w0 w v n cs) (ad : Addr) (k c : Nat) (news : List Value) (hx : a.eval x = .slice (some ad) k c) (hl : news.length = k * size) (hcell : ∀ j u, news[j]? = some u → w.cell? (ad.add j) = some u) (h1 : ∀ u ∈ news, u.oneCell' = true) (hn : n + k ≤ 1099511627776)
    (h : ∀ v' w', BuiltC E size w0 w' v' (n + k) (cs ++ news) → wpList P ops Q rest (a.put o.dst v') w') : wpList P ops Q (o :: rest) a w := by
  obtain ⟨i, hi, hz0, hz1, hz2⟩ := info_parts hinfo
  have hsw := hown.2.size
  have hlen : (n + k) * bytes ≤ 140737488355328 := by
    have : (n + k) * bytes ≤ 1099511627776 * 128 := Nat.mul_le_mul hn h8
    omega
  refine wpList_plain hgd fun K hK => ?_
  refine wp_append_own w s x t ho w0.heap.size E i z size bytes ht hi hz0 hz1 hz2 hzs hsz v n cs hs hown.1 ad k c news hx hl hcell h1 (by unfold maxLen; omega) hlen hsw ?_
  intro v' w' ho' hg _
  exact hK _ _ (h v' w' ⟨ho', hown.2.grown hg hsw fun j hj => (hown.1.lt j hj).1⟩)
end

theorem info_FactsS : (Tryz.prog.info? 30).map (fun i => (i.zero, i.size, i.bytes)) = some (some (.slice none 0 0), 1, 24) := by kernel_rfl
theorem BuiltC.made1 (E : TypeId) (w0 w : World) (cur : Array Value) (cap : Nat) (hm : cap ≤ maxLen) (hs : cur.size = cap) (hb : Below w0.heap.size w0 w) :
    BuiltC E 1 w0 (w.alloc (.cells cur E)) (.slice (some ⟨w.heap.size, 0, none⟩) 0 cap) 0 [] := by
  refine ⟨?_, hb.alloc hb.size _⟩
  have := World.ownsRow_made (e := E) (size := 1) (base := w0.heap.size) w cur cap hb.size hm (by omega)
  simpa using this
theorem BuiltC.drew1 {E : TypeId} {size : Nat} {w0 w : World} {v : Value} {n : Nat} {cs : List Value} (h : BuiltC E size w0 w v n cs) : BuiltC E size w0 w.drew v n cs := ⟨h.1.drew, h.2.drew⟩
set_option maxRecDepth 100000 in
set_option maxHeartbeats 4000000 in
theorem iGrowF_any (w : World) (n : Nat) (hn : n ≤ 4194304) :
    Calls Tryz.prog 53 #[.slice none 0 0, .int .i64 n] w (fun e w' => ∃ v, e = .returned v ∧ BuiltC 30 1 w w' v 0 []) := by
  rcases Nat.eq_zero_or_pos n with rfl | h0
  · go_enter Tryz.func53, Tryz.ntmps53
    go_wp2_with fail
    go_ret
    exact ⟨_, rfl, BuiltC.nil _ _ _ _ (Below.refl _ _)⟩
  · obtain ⟨i, hi, hz0, hz1, hz2⟩ := info_parts info_FactsS
    have hrz : ∀ ty, (Builtin.append_ #[56, 3] ty #[.slice none 0 0, .int .i64 (n : Int)]).run Tryz.prog w =
        .ok (.slice (some ⟨w.heap.size, 0, none⟩) n (grownCap w n 0 30)) (w.drew.alloc (.cells (#[] ++ Builtin.zeroCells (Value.slice none 0 0).cells n ++ Builtin.zeroCells (Value.slice none 0 0).cells (grownCap w n 0 30 - n)) 30)) := fun ty => by
      have h := Lib.run_append_grow_zeros w 56 3 ty 30 i (.slice none 0 0) .i64 .i64 Tryz.underlying56 Tryz.underlying3 hi hz0 none 0 0 [] (run_firstCells_none _ _ _ _ _) n h0 (by rw [hz1]; omega) (by omega) (by omega) (by rw [hz2]; omega)
        (growslice_fits (by omega) (by rw [hz2]; omega))
      simpa using h
    have hG : n ≤ grownCap w n 0 30 := grownCap_ge w _ _ _
    have hG2 : grownCap w n 0 30 ≤ maxLen := grownCap_le_maxLen w n 0 30 (by unfold maxLen; omega)
    generalize grownCap w n 0 30 = G at *
    obtain ⟨cs, hcs⟩ : ∃ cs : Array Value, cs = #[] ++ Builtin.zeroCells (Value.slice none 0 0).cells n ++ Builtin.zeroCells (Value.slice none 0 0).cells (G - n) := ⟨_, rfl⟩
    have hcz : cs.size = G := by rw [hcs]; simp [size_zeroCells, Value.cells]; omega
    rw [← hcs] at hrz
    clear hcs
    have HB : Hid (BuiltC 30 1 w (w.alloc (.cells cs 30)).drew (.slice (some ⟨w.heap.size, 0, none⟩) 0 G) 0 []) := Lib.hid (BuiltC.made1 30 w w cs G hG2 hcz (Below.refl _ w)).drew1
    clear hcz
    have hn1 : ¬ ((n : Int) < 0) := by omega
    have hn2 : (n : Int) > 0 := by omega
    have HG := Lib.hid hG
    unfold maxLen at hG2
    go_enter Tryz.func53, Tryz.ntmps53
    go_wp2_with (at_builtin; refine Lib.wpList_append_run _ rfl _ _ _ _ rfl _ _ rfl rfl _ _ (hrz _) ?_)
    all_goals (go_ret; exact ⟨_, rfl, HB.out⟩)

theorem catv_take {l : List (List Value)} {i : Nat} {e : List Value} (h : l[i]? = some e) : (l.take (i + 1)).flatten = (l.take i).flatten ++ e := by
  obtain ⟨hi, rfl⟩ := List.getElem?_eq_some_iff.1 h
  rw [List.take_succ_eq_append_getElem hi, List.flatten_append]; simp
theorem catv_take_le (l : List (List Value)) (i : Nat) : (l.take i).flatten.length ≤ l.flatten.length := by
  have h := congrArg List.length (congrArg List.flatten (List.take_append_drop i l))
  rw [List.flatten_append, List.length_append] at h
  omega
/-- A row of rows of one-cell values. -/
def FsRow (w : World) (b off : Nat) (l : List (List Value)) : Prop := ∀ (j : Nat) (x : List Value), l[j]? = some x → ∃ g c, w.cell? ⟨b, off + j, none⟩ = some (.slice (some ⟨g, 0, none⟩) x.length c) ∧ x.length ≤ c ∧ c ≤ maxLen ∧ (∀ t u, x[t]? = some u → w.cell? ⟨g, t, none⟩ = some u) ∧ ∀ u ∈ x, u.oneCell' = true
set_option maxRecDepth 100000 in
set_option maxHeartbeats 4000000 in
theorem iConcatF_any (w : World) (b off n c : Nat) (l : List (List Value)) (h : FsRow w b off l) (hl : l.length = n) (hn : n ≤ 1048576) (hz : l.flatten.length ≤ 4194304) :
    Calls Tryz.prog 27 #[.slice (some ⟨b, off, none⟩) n c] w (fun e w' => ∃ v, e = .returned v ∧ BuiltC 30 1 w w' v l.flatten.length l.flatten) := by
  have HR := Lib.hid h
  have HL := Lib.hid hl
  have HZ := Lib.hid hz
  have hG := Lib.hid (fun n h => iGrowF_any w n h)
  clear h hl hz
  go_enter Tryz.func27, Tryz.ntmps27
  go_wp2_with fail
  go_loopw [3, 11] (fun sv iv wr => ∃ i : Nat, i ≤ n ∧ iv = .int .i64 i ∧ sv = .int .i64 ((l.take i).flatten.length : Nat) ∧ wr = w) (fun _ iv _ => n - (intOf iv).toNat)
  case atStart => exact ⟨0, by omega, rfl, by simp, rfl⟩
  case round =>
    obtain ⟨i, hi, rfl, rfl, rfl⟩ := hrel
    by_cases hlt : i < n
    · obtain ⟨e, hd⟩ : ∃ e, l[i]? = some e := ⟨l[i]'(by rw [HL.out]; exact hlt), List.getElem?_eq_getElem (by rw [HL.out]; exact hlt)⟩
      obtain ⟨g, ec, k0, hem, hec, _, _⟩ := HR.out i e hd
      have HCT := Lib.hid (congrArg List.length (catv_take hd))
      have hle := catv_take_le l (i + 1)
      have hz := HZ.out
      rw [HCT.out, List.length_append] at hle
      obtain ⟨em, hel⟩ : ∃ m, e.length = m := ⟨_, rfl⟩
      rw [hel] at hle k0 hem
      have HSN : Hid (((l.take (i + 1)).flatten.length : Int) = ((l.take i).flatten.length : Int) + em) := by
        unfold Hid; rw [HCT.out, List.length_append, hel]; omega
      have hi0 : (0 : Int) ≤ i := by omega
      have hi1 : (i : Int) < n := by omega
      unfold maxLen at hec
      generalize (l.take i).flatten.length = s at *
      have hs1 : ¬ ((s : Int) + (em : Int) < 0) := by omega
      have hw : wrap64 ((s : Int) + (em : Int)) = (s : Int) + (em : Int) := by unfold wrap64; omega
      clear hd hel
      go_wp2_with fail
      exact ⟨⟨i + 1, by omega, by simp, by rw [HSN.out], by trivial⟩, by simp [intOf]; omega⟩
    · obtain rfl : i = n := by omega
      obtain ⟨wq, hwq⟩ : ∃ x, x = wr := ⟨_, rfl⟩
      subst hwq
      have hT : l.take i = l := List.take_of_length_le (by rw [HL.out]; exact Nat.le_refl _)
      rw [hT]
      have hg := Lib.hid (hG.out l.flatten.length HZ.out)
      clear hT
      generalize hs : l.flatten.length = s at hg ⊢
      have HS9 := Lib.hid hs
      go_wp2_with fail
      refine hg.out.mono ?_
      rintro e2 w2 ⟨v2, rfl, hb2⟩
      have HB2 := Lib.hid hb2
      clear hb2 hs
      go_wp2_with fail
      go_loopw [6, 27] (fun ov iv wr => ∃ k : Nat, k ≤ i ∧ iv = .int .i64 k ∧ BuiltC 30 1 wq wr ov (l.take k).flatten.length (l.take k).flatten) (fun _ iv _ => i - (intOf iv).toNat)
      case atStart => exact ⟨0, by omega, rfl, by simpa using HB2.out⟩
      case round =>
        obtain ⟨k, hk, rfl, hown⟩ := hrel
        have HO := Lib.hid hown
        by_cases hlt : k < i
        · obtain ⟨e, hd⟩ : ∃ e, l[k]? = some e := ⟨l[k]'(by rw [HL.out]; exact hlt), List.getElem?_eq_getElem (by rw [HL.out]; exact hlt)⟩
          obtain ⟨g, ec, k0, hem, hec, hcs, hone⟩ := HR.out k e hd
          replace k0 := cellk hown.2 k0
          have HCS : Hid (∀ t u, e[t]? = some u → wr.cell? ((⟨g, 0, none⟩ : Addr).add t) = some u) := Lib.hid fun t u h => by rw [Addr.add_lit, Nat.zero_add]; exact cellk hown.2 (hcs t u h)
          have HONE := Lib.hid hone
          have HCT := Lib.hid (catv_take hd)
          have HLN : Hid ((l.take k).flatten.length + e.length ≤ 1099511627776) := by
            have hle := catv_take_le l (k + 1)
            have hz := HZ.out
            rw [HCT.out, List.length_append] at hle
            exact Lib.hid (by omega)
          have hi0 : (0 : Int) ≤ k := by omega
          have hi1 : (k : Int) < i := by omega
          generalize (l.take k).flatten = L at *
          clear hown hd hcs hone
          go_wp2_with (at_builtin; refine wpList_appC11 rfl (.tmp 31) (.tmp 32) 56 rfl 30 (.slice none 0 0) 1 24 Tryz.underlying56 info_FactsS (by decide) (by decide) (by rfl) _ L.length L rfl HO.out ⟨g, 0, none⟩ e.length ec e rfl (by omega) HCS.out HONE.out HLN.out ?_)
          intro v4 w4 hown4
          have HO4 : Hid (BuiltC 30 1 wq w4 v4 (l.take (k + 1)).flatten.length (l.take (k + 1)).flatten) := by rw [HCT.out, List.length_append]; exact Lib.hid hown4
          clear hown4
          go_wp2_with fail
          exact ⟨⟨k + 1, by omega, by simp, HO4.out⟩, by simp [intOf]; omega⟩
        · obtain rfl : k = i := by omega
          have hT : l.take k = l := List.take_of_length_le (by rw [HL.out]; exact Nat.le_refl _)
          clear hown
          go_wp2_with fail
          go_ret
          exact ⟨_, rfl, by have := HO.out; rw [hT] at this; rw [← HS9.out]; exact this⟩

/-- Lists of facts, each in memory that the call has made, apart from block g. -/
def WRow (W w : World) (g : Nat) (vs : List Value) (L : List (List AtomD)) : Prop := vs.length = L.length ∧ ∀ (j : Nat) (v : Value) (l : List AtomD), vs[j]? = some v → L[j]? = some l → ∃ bs, ROAtomS w v l bs ∧ Fresh W w bs ∧ g ∉ bs
theorem WRow.step {W w w' : World} {g g' : Nat} {vs : List Value} {L : List (List AtomD)} (h : WRow W w g vs L) (ko : OnlyAt [g] w w') (hg : g' = g ∨ w.heap.size ≤ g') : WRow W w' g' vs L := ⟨h.1, fun j v l h1 h2 => by
  obtain ⟨bs, h3, h4, h5⟩ := h.2 j v l h1 h2
  refine ⟨bs, h3.onlyAt ko (fun b hb hm => by simp at hm; subst hm; exact h5 hb), h4.wide (Nat.le_refl _) ko.size, fun hm => ?_⟩
  rcases hg with e | e
  · rw [e] at hm; exact h5 hm
  · have := (h4.2 _ hm).2; omega⟩
theorem WRow.grow {W w w' : World} {g : Nat} {vs : List Value} {L : List (List AtomD)} (h : WRow W w g vs L) (hb : Below w.heap.size w w') : WRow W w' g vs L := h.step (OnlyAt.ofBelow _ hb) (.inl rfl)
theorem WRow.one {W w : World} {g : Nat} {vs : List Value} {L : List (List AtomD)} (h : WRow W w g vs L) : ∀ u ∈ vs, u.oneCell' = true := fun u hu => by
  obtain ⟨j, hj⟩ := List.mem_iff_getElem?.1 hu
  have hjl := (List.getElem?_eq_some_iff.1 hj).1
  obtain ⟨bs, ⟨a, n, c, rfl, _⟩, _⟩ := h.2 j u (L[j]'(by rw [← h.1]; exact hjl)) hj (List.getElem?_eq_getElem _)
  rfl
theorem WRow.snoc {W w : World} {g : Nat} {vs : List Value} {L : List (List AtomD)} (h : WRow W w g vs L) {v : Value} {l : List AtomD} {bs : List Nat} (h1 : ROAtomS w v l bs) (h2 : Fresh W w bs) (h3 : g ∉ bs) : WRow W w g (vs ++ [v]) (L ++ [l]) := by
  refine ⟨by simp [h.1], fun j v' l' e1 e2 => ?_⟩
  rcases Nat.lt_or_ge j vs.length with hj | hj
  · rw [List.getElem?_append_left hj] at e1
    rw [List.getElem?_append_left (by rw [← h.1]; exact hj)] at e2
    exact h.2 j v' l' e1 e2
  · have hj2 : j = vs.length := by
      have := (List.getElem?_eq_some_iff.1 e1).1
      simp at this; omega
    subst hj2
    rw [List.getElem?_append_right (Nat.le_refl _), Nat.sub_self] at e1
    rw [List.getElem?_append_right (by rw [h.1]; exact Nat.le_refl _), ← h.1, Nat.sub_self] at e2
    simp at e1 e2
    subst e1; subst e2
    exact ⟨bs, h1, h2, h3⟩
def wsTo (q : QueryD) (i : Nat) : List (List AtomD) := frzDb q :: ((varsTo q 20).take i).map (fun v => prN (frzDb q) (80 + v) (frzDb q).length)
set_option maxRecDepth 100000 in
set_option maxHeartbeats 8000000 in
theorem iWits_any (w : World) (v : Value) (d : QueryD) (h : RdQuery w v d) :
    Calls Tryz.prog 28 #[v] w (fun e w' => ∃ g cap vs, e = .returned (.slice (some ⟨g, 0, none⟩) (wsL d).length cap) ∧ BuiltC 30 1 w w' (.slice (some ⟨g, 0, none⟩) (wsL d).length cap) (wsL d).length vs ∧ WRow w w' g vs (wsL d)) := by
  have HQ := Lib.hid h
  obtain ⟨a0, n0, c0, a, n, c, rfl, hi, ha⟩ := h
  clear hi ha
  have hF := Lib.hid (fun w' h => iFreeze_any w' (.agg #[.slice a0 n0 c0, .slice a n c]) d h)
  have hV := Lib.hid (fun w' h => iVarsOf_own w' (.agg #[.slice a0 n0 c0, .slice a n c]) d h)
  have hS := Lib.hid (fun w' vd x h => iSplitFs_any w' vd (frzDb d) x h (frzDb_3 d) (Nat.le_trans (frzDb_8 d) (by omega)))
  go_enter Tryz.func28, Tryz.ntmps28
  go_wp2_with fail
  obtain ⟨W1, hW1⟩ : ∃ z, z = w.alloc (.cells #[.slice a0 n0 c0, .slice a n c] 37) := ⟨_, rfl⟩
  have HB1 : Hid (Below w.heap.size w W1) := Lib.hid (by rw [hW1]; exact below_alloc _ _)
  have K0 : Hid (W1.cell? ⟨w.heap.size, 0, none⟩ = some (.slice a0 n0 c0)) := Lib.hid (by rw [hW1]; simp)
  have K1 : Hid (W1.cell? ⟨w.heap.size, 1, none⟩ = some (.slice a n c)) := Lib.hid (by rw [hW1]; simp)
  rw [← hW1]
  clear hW1
  refine (hF.out _ (RdQuery.below HQ.out HB1.out)).mono ?_
  rintro e w2 ⟨r0, r1, bs0, bs1, rfl, hr0, hr1, hfr, hb2⟩
  obtain ⟨ra1, rn1, rc1, rfl, _⟩ := hr1
  obtain ⟨ra, rn, rc, rfl⟩ : ∃ a n c, r0 = .slice a n c := by obtain ⟨a, n, c, e, _⟩ := hr0; exact ⟨a, n, c, e⟩
  obtain ⟨W3, hW3⟩ : ∃ z, z = w2.alloc (.cells #[.slice ra rn rc] 30) := ⟨_, rfl⟩
  have hb23 : Below w2.heap.size w2 W3 := by rw [hW3]; exact below_alloc _ _
  have HB2 := Lib.hid (bnext HB1.out hb2)
  have HB3 := Lib.hid (bnext HB2.out hb23)
  have HBU : Hid (BuiltC 30 1 w W3 (.slice (some ⟨w2.heap.size, 0, none⟩) 1 1) 1 [.slice ra rn rc]) := Lib.hid (by
    have := BuiltC.lit 30 1 w2 w2 1 [.slice ra rn rc] (by unfold maxLen; omega) rfl (Below.refl _ _)
    rw [hW3]; exact this.rebase HB2.out)
  have hfr0 : Fresh w w2 bs0 := by
    refine ⟨(List.nodup_append.1 hfr.1).1, fun b hb => ?_⟩
    have h1 := hfr.2 b (List.mem_append_left _ hb)
    exact ⟨Nat.le_trans HB1.out.size h1.1, h1.2⟩
  have HWR : Hid (WRow w W3 w2.heap.size [.slice ra rn rc] (wsTo d 0)) := Lib.hid ⟨rfl, fun j v l e1 e2 => by
    cases j with
    | zero =>
      simp [wsTo] at e1 e2
      subst e1; subst e2
      exact ⟨bs0, hr0.below hb23, hfr0.wide (Nat.le_refl _) hb23.size, fun hm => by have := (hfr0.2 _ hm).2; omega⟩
    | succ j => simp at e1⟩
  have k0 : (w2.alloc (.cells #[.slice ra rn rc] 30)).cell? ⟨w.heap.size, 0, none⟩ = some (.slice a0 n0 c0) := by rw [← hW3]; exact cellk (bnext hb2 hb23) K0.out
  have k1 : (w2.alloc (.cells #[.slice ra rn rc] 30)).cell? ⟨w.heap.size, 1, none⟩ = some (.slice a n c) := by rw [← hW3]; exact cellk (bnext hb2 hb23) K1.out
  have HS3 : Hid (w2.heap.size < W3.heap.size) := Lib.hid (by rw [hW3]; simp)
  clear hr0 hfr hfr0 hb2 hb23
  go_wp2_with fail
  rw [← hW3]
  clear hW3
  refine (hV.out _ (RdQuery.below HQ.out HB3.out)).mono ?_
  rintro e w4 ⟨vv, bsv, rfl, hov, hfv, hb4⟩
  obtain ⟨va, vn, vc, rfl, hvl, hvn, hvm, hvc⟩ := hov.1.cases
  unfold maxLen at hvm
  have HVL := Lib.hid hvl
  have HVC := Lib.hid hvc
  have HB4 := Lib.hid (bnext HB3.out hb4)
  have HBU4 := Lib.hid (HBU.out.grow hb4)
  have HWR4 := Lib.hid (HWR.out.grow hb4)
  have HOV := Lib.hid hov
  have HNV : Hid (∀ z ∈ bsv, z ≠ w2.heap.size ∧ z < w4.heap.size) := Lib.hid fun z hz => by have := hfv.2 z hz; have := HS3.out; omega
  have hvn20 : vn ≤ 20 := by rw [← hvl]; exact varsTo_len d 20
  clear hov hfv hb4 hvc hvl k0 k1 HBU HWR
  go_wp2_with fail
  go_loopw [18, 5] (fun iv sv wr => ∃ (i g cap : Nat) (vs : List Value), i ≤ vn ∧ iv = .int .i64 i ∧ sv = .slice (some ⟨g, 0, none⟩) (i + 1) cap ∧ Hid (BuiltC 30 1 w wr (.slice (some ⟨g, 0, none⟩) (i + 1) cap) (i + 1) vs) ∧ Hid (WRow w wr g vs (wsTo d i)) ∧ Hid (OInts wr (.slice va vn vc) (varsTo d 20) bsv) ∧ Hid (∀ z ∈ bsv, z ≠ g ∧ z < wr.heap.size) ∧ Hid (vs[0]? = some (.slice ra rn rc))) (fun iv _ _ => vn - (intOf iv).toNat)
  case atStart => exact ⟨0, w2.heap.size, 1, [.slice ra rn rc], by omega, rfl, rfl, HBU4, HWR4, HOV, HNV, rfl⟩
  case round =>
    obtain ⟨wi, hwi⟩ : ∃ z, z = wr := ⟨_, rfl⟩
    subst hwi
    obtain ⟨i, g, cap, vs, hi, rfl, rfl, HBI, HWI, HOI, HNI, HV0⟩ := hrel
    by_cases hlt : i < vn
    · obtain ⟨va9, vn9, vc9, e9, _, _, _, hvc9⟩ := HOI.out.1.cases
      cases e9
      obtain ⟨vb, vo, rfl, _, hc⟩ := hvc9 (by omega)
      have c1 := hc i hlt
      have hrf : RdAtomS wi (.slice ra rn rc) (frzDb d) := by
        obtain ⟨b0, h9, _, _⟩ := HWI.out.2 0 _ (frzDb d) HV0.out rfl
        exact h9.rd
      have hi0 : (0 : Int) ≤ i := by omega
      have hi1 : (i : Int) < vn := by omega
      have hgd : (varsTo d 20)[i]? = some ((varsTo d 20).getD i 0) := by
        rw [List.getD_eq_getElem?_getD, List.getElem?_eq_getElem (by rw [HVL.out]; exact hlt)]; rfl
      have hy := varsTo_lt d 20 _ (List.mem_of_getElem? hgd)
      have HTO : Hid (wsTo d (i + 1) = wsTo d i ++ [prN (frzDb d) (80 + (varsTo d 20).getD i 0) (frzDb d).length]) := Lib.hid (by
        unfold wsTo
        rw [List.take_add_one, hgd, List.map_append]; rfl)
      generalize (varsTo d 20).getD i 0 = y at *
      have hwr : wrap64 (80 + y) = 80 + y := by unfold wrap64; omega
      have hcall := Lib.hid (hS.out wi (.slice ra rn rc) (80 + y) hrf)
      clear hc hgd hvc9 hrf
      go_wp2_with fail
      refine hcall.out.mono ?_
      rintro e w5 ⟨v5, bs5, rfl, hr5, hf5, hb5⟩
      obtain ⟨a5, n5, c5, rfl⟩ : ∃ a n c, v5 = .slice a n c := by obtain ⟨a, n, c, e, _⟩ := hr5; exact ⟨a, n, c, e⟩
      have HB5 := Lib.hid (HBI.out.grow hb5)
      have HW5 := Lib.hid (WRow.snoc (HWI.out.grow hb5) hr5 (hf5.wide HBI.out.2.size (Nat.le_refl _)) (fun hm => by have := (hf5.2 _ hm).1; have := HBI.out.lt.2; omega))
      rw [← HTO.out] at HW5
      have HO5 := Lib.hid (HOI.out.below hb5)
      have HN5 : Hid (∀ z ∈ bsv, z ≠ g ∧ z < w5.heap.size) := Lib.hid fun z hz => ⟨(HNI.out z hz).1, Nat.lt_of_lt_of_le (HNI.out z hz).2 hb5.size⟩
      clear hr5 hf5 hb5 hcall c1
      go_wp2_with (at_builtin; refine wpList_app1K rfl (.tmp 22) (.tmp 27) 56 rfl 30 (.slice none 0 0) 1 24 Tryz.underlying56 info_FactsS (by decide) (by decide) (by rfl) g (i + 1) cap vs rfl HB5.out [.slice a5 n5 c5] rfl (by simp [Value.oneCell']) (by first | rfl | (simp; rfl)) (by omega) ?_)
      intro g6 cap6 w6 hB6 ko6 hg6 hkeep6
      have R1 := Lib.hid hB6
      have R2 := Lib.hid (HW5.out.step ko6 hg6)
      have R3 := Lib.hid (HO5.out.onlyAt ko6 (fun z hz hm => by simp at hm; exact (HN5.out z hz).1 hm))
      have R4 : Hid (∀ z ∈ bsv, z ≠ g6 ∧ z < w6.heap.size) := Lib.hid fun z hz => by
        have h1 := HN5.out z hz
        refine ⟨fun e6 => ?_, Nat.lt_of_lt_of_le h1.2 ko6.size⟩
        rcases hg6 with e | e
        · exact h1.1 (e6.trans e)
        · omega
      have R5 : Hid ((vs ++ [.slice a5 n5 c5])[0]? = some (.slice ra rn rc)) := Lib.hid (by rw [List.getElem?_append_left (List.getElem?_eq_some_iff.1 HV0.out).1]; exact HV0.out)
      clear hB6 ko6 hg6 hkeep6
      go_wp2_with fail
      exact ⟨⟨i + 1, g6, cap6, vs ++ [.slice a5 n5 c5], by omega, by simp, rfl, R1, R2, R3, R4, R5⟩, by simp [intOf]; omega⟩
    · obtain rfl : i = vn := by omega
      have hT : wsTo d i = wsL d := by unfold wsTo wsL; rw [List.take_of_length_le (by rw [HVL.out]; exact Nat.le_refl _)]
      have hLn : (wsL d).length = i + 1 := by unfold wsL; simp [HVL.out]
      have R1 := Lib.hid HBI.out
      have R2 := Lib.hid HWI.out
      rw [hT] at R2
      have HLN := Lib.hid hLn
      clear hT hLn
      go_wp2_with fail
      go_ret
      exact ⟨g, cap, vs, by rw [HLN.out]; rfl, by rw [HLN.out]; exact R1.out, R2.out⟩
end Go.Proofs.YtnbljidjbknleaaGreat

/-! I11e -/
namespace Go.Proofs.YtnbljidjbknleaaGreat
open Go Go.Sort Go.RowKit Go.MapKept
open Go.ChangeMaps (setBlock)
set_option linter.unusedVariables false

theorem packLaw11 : Maps.Keyed Tryz.prog 126 :=
  Maps.Keyed.of_law (deep_law_gate laid9 (of_decide_eq_true (by kernel_rfl)) (of_decide_eq_true (by kernel_rfl)) (by kernel_rfl) (by kernel_rfl))
theorem packKey11 {n x y z : Int} (hn : inI n) (hx : inI x) (hy : inI y) (hz : inI z) : ∃ kl, keyOf Tryz.prog 126 (.agg #[.int .i64 n, .int .i64 x, .int .i64 y, .int .i64 z]) = some kl := by
  have h1 : Tryz.prog.keyType 126 = true := by kernel_rfl
  have c1 : Tryz.prog.cellsOf 3 = 1 := by kernel_rfl
  have c3 : Tryz.prog.cellsOf 123 = 3 := by kernel_rfl
  have c4 : Tryz.prog.cellsOf 126 = 4 := by kernel_rfl
  have h2 : Value.formed Tryz.prog 126 (.agg #[.int .i64 n, .int .i64 x, .int .i64 y, .int .i64 z]) = true := by
    unfold Value.formed
    rw [Tryz.underlying126]
    rw [c4]; rfl
  obtain ⟨m, hm⟩ : ∃ m, Tryz.prog.types.size = m + 1 + 1 := ⟨Tryz.prog.types.size - 2, by kernel_rfl⟩
  have hl : ∀ (d : Nat) {n : Int}, inI n → Tryz.prog.keyLits (d + 1) 3 [.int .i64 n] = some [.int .i64 n] := fun d n h => by
    unfold Program.keyLits
    rw [Tryz.underlying3]
    simp [wf9 h]
  have h3 : ∀ d, Tryz.prog.keyLits (d + 1 + 1) 123 [.int .i64 x, .int .i64 y, .int .i64 z] = some [.int .i64 x, .int .i64 y, .int .i64 z] := fun d => by
    unfold Program.keyLits
    rw [Tryz.underlying123]
    simp [c1, c3, List.range, List.range.loop, hl d hx, hl d hy, hl d hz]
  have h5 : ∃ ls, Tryz.prog.keyLits (Tryz.prog.types.size + 1) 126 [.int .i64 n, .int .i64 x, .int .i64 y, .int .i64 z] = some ls := by
    rw [hm]
    unfold Program.keyLits
    rw [Tryz.underlying126]
    simp [c1, c3, c4, hl _ hn, h3]
  obtain ⟨ls, h5⟩ := h5
  unfold keyOf
  rw [Tryz.underlying126]
  simp only [h1, h2, Bool.and_self, if_true]
  exact ⟨_, by show Option.map _ (Tryz.prog.keyLits _ _ [_, _, _, _]) = _; rw [h5]; rfl⟩

section
variable {P : Program} {w : World} {t k e : TypeId} {b : Nat} {es : Array MapEntry} {clock : Nat}
theorem eraseMap11 {α β : Type} (f : α → β) : ∀ (l : List α) (j : Nat), (l.eraseIdx j).map f = (l.map f).eraseIdx j
  | [], _ => rfl
  | _ :: _, 0 => rfl
  | a :: l, j + 1 => congrArg (f a :: ·) (eraseMap11 f l j)
/-- An entry is deleted. -/
theorem delete11 (K : Maps.Keyed P k) (ht : P.underlying t = some (.map k e)) (F : Keyed9 P k es clock) {key : Value} {kl : Lit} (hkey : keyOf P k key = some kl) {j : Nat} {e0 : MapEntry} (h0 : es.toList[j]? = some e0) (he : e0.key = key) :
    ∃ es', Keyed9 P k es' clock ∧ prs9 es' = (prs9 es).eraseIdx j ∧ ∀ (ty : TypeId) (w : World), w.heap[b]? = some (.map es clock) → (Builtin.delete_ #[t, k] ty #[.map (some b), key]).run P w = .ok (.tuple #[]) (setBlock w b (.map es' clock)) := by
  have hjs : j < es.size := by simpa using (List.getElem?_eq_some_iff.1 h0).1
  have hsub : (es.eraseIdxIfInBounds j).toList = es.toList.eraseIdx j := by
    unfold Array.eraseIdxIfInBounds
    rw [dif_pos hjs]
    simp
  refine ⟨es.eraseIdxIfInBounds j, ⟨stamped_erase F.stamped j, fun x hx => by rw [hsub] at hx; exact F.keys x ((List.eraseIdx_sublist _ _).subset hx)⟩, ?_, fun ty w hb => ?_⟩
  · unfold prs9; rw [hsub, eraseMap11]
  · rcases K.find w hkey es.toList F.keys with ⟨h1, h2⟩ | ⟨i, e1, h1, h2, h3⟩
    · exact absurd he (h2 e0 (List.mem_of_getElem? h0))
    · have hn := F.stamped.2.2
      have a1 : (es.toList.map (·.key))[j]? = some key := by rw [List.getElem?_map, h0]; exact congrArg some he
      have a2 : (es.toList.map (·.key))[i]? = some key := by rw [List.getElem?_map, h2]; exact congrArg some h3
      obtain ⟨x1, y1⟩ := List.getElem?_eq_some_iff.1 a1
      obtain ⟨x2, y2⟩ := List.getElem?_eq_some_iff.1 a2
      have := (List.getElem_inj (h₀ := x1) (h₁ := x2) hn).1 (y1.trans y2.symm)
      subst this
      simp [Builtin.delete_, run_underlying ht, MapKept.run_getObj_map hb, K.check w _ hkey, h1, MapKept.run_setObj_map _ hb, Result.andThen, setBlock]
end

theorem not_erase11 {α : Type} {l : List α} (h : l.Nodup) {j : Nat} {t : α} (hj : l[j]? = some t) (hm : t ∈ l.eraseIdx j) : False := by
  obtain ⟨i, hij, hi⟩ := List.mem_eraseIdx_iff_getElem?.1 hm
  obtain ⟨x1, y1⟩ := List.getElem?_eq_some_iff.1 hi
  obtain ⟨x2, y2⟩ := List.getElem?_eq_some_iff.1 hj
  exact hij ((List.getElem_inj (h₀ := x1) (h₁ := x2) h).1 (y1.trans y2.symm))
def pk (t : List Int) : Value := .agg #[.int .i64 (t.length : Int), .int .i64 (t.getD 0 0), .int .i64 (t.getD 1 0), .int .i64 (t.getD 2 0)]
theorem pk_inj {u t : List Int} (h3 : u.length ≤ 3) (e : pk u = pk t) : u = t := by
  unfold pk at e
  have e1 : (u.length : Int) = t.length ∧ u.getD 0 0 = t.getD 0 0 ∧ u.getD 1 0 = t.getD 1 0 ∧ u.getD 2 0 = t.getD 2 0 := by simpa using e
  refine tri_inj (by omega) h3 ?_
  unfold tri
  rw [e1.2.1, e1.2.2.1, e1.2.2.2]
/-- The tuples that have a difference D, each with it. -/
def TOf (D : List Int → Int) (ct : List CntD) : Prop := (ct.map (·.1)).Nodup ∧ (∀ p ∈ ct, p.1.length ≤ 3 ∧ D p.1 = p.2 ∧ p.2 ≠ 0) ∧ ∀ t, t.length ≤ 3 → t ∉ ct.map (·.1) → D t = 0
def addD (D : List Int → Int) (t : List Int) (n : Int) : List Int → Int := fun u => if u = t then D u + n else D u
theorem addD_self (D : List Int → Int) (t : List Int) (n : Int) : addD D t n t = D t + n := if_pos rfl
theorem addD_ne {D : List Int → Int} {t u : List Int} (n : Int) (h : u ≠ t) : addD D t n u = D u := if_neg h
/-- The map's entries. -/
def TInv (W : World) (M : Nat) (D : List Int → Int) : Prop := ∃ es clock ct, W.heap[M]? = some (.map es clock) ∧ Keyed9 Tryz.prog 126 es clock ∧ prs9 es = ct.map (fun p => (pk p.1, Value.int .i64 p.2)) ∧ TOf D ct
theorem TInv.grow {W W' : World} {M : Nat} {D : List Int → Int} (h : TInv W M D) (hb : Below W.heap.size W W') : TInv W' M D := by
  obtain ⟨es, clock, ct, h1, h2⟩ := h
  exact ⟨es, clock, ct, (hb.block _ (Array.getElem?_eq_some_iff.1 h1).1).trans h1, h2⟩
theorem TInv.own {β : Type} (f : β → List Int → Int) {M B : Nat} (hM : M < B) : OwnFrom B (fun (s : β) W => TInv W M (f s)) := by
  intro s A A' row ⟨es, clock, ct, h1, h2⟩ hg hr
  exact ⟨es, clock, ct, (hg.block M (Array.getElem?_eq_some_iff.1 h1).1 (fun e => by have := (hr M e.symm).1; omega)).trans h1, h2⟩

theorem mapFst_set {ct : List CntD} {t : List Int} {v c : Int} {j : Nat} (hj : ct[j]? = some (t, v)) : (ct.set j (t, c)).map (·.1) = ct.map (·.1) := by
  rw [List.map_set]
  refine List.ext_getElem (by simp) (fun i a b => ?_)
  rw [List.getElem_set]
  split
  · rename_i e; subst e; rw [List.getElem_map, (List.getElem?_eq_some_iff.1 hj).2]
  · rfl
/-- What m[x] += n does: what is read, what is stored, what a second look gives, and what is left when it is deleted. -/
theorem tally_step {M : Nat} {D : List Int → Int} {es : Array MapEntry} {clock : Nat} {ct : List CntD} (F : Keyed9 Tryz.prog 126 es clock) (hp : prs9 es = ct.map (fun p => (pk p.1, Value.int .i64 p.2))) (hT : TOf D ct)
    {t : List Int} (h3 : t.length ≤ 3) (ht : ∀ v ∈ t, inI v) (n : Int) :
    ∃ (kl : Lit) (st : Nat) (es1 : Array MapEntry) (clock1 : Nat) (es2 : Array MapEntry),
      (∀ w : World, w.heap[M]? = some (.map es clock) → (Instr.lookup 90 (.map (some M)) (pk t) false).run Tryz.prog w = .ok (.int .i64 (D t)) w) ∧
      (∀ w : World, w.heap[M]? = some (.map es1 clock1) → (Instr.lookup 90 (.map (some M)) (pk t) false).run Tryz.prog w = .ok (.int .i64 (D t)) w) ∧
      (∀ w : World, w.heap[M]? = some (.map es clock) → (Instr.mapEntry 90 (.map (some M)) (pk t)).run Tryz.prog w = .ok (.tuple #[.int .i64 (D t), goInt st]) (setBlock w M (.map es1 clock1))) ∧
      (∀ w : World, w.heap[M]? = some (.map es1 clock1) → (Instr.entryStore 90 (.map (some M)) (goInt st) (.int .i64 (D t + n))).run Tryz.prog w = .ok () (setBlock w M (.map es2 clock1))) ∧
      (∀ w : World, w.heap[M]? = some (.map es2 clock1) → (Instr.lookup 90 (.map (some M)) (pk t) false).run Tryz.prog w = .ok (.int .i64 (D t + n)) w) ∧
      (D t + n ≠ 0 → ∀ w : World, w.heap[M]? = some (.map es2 clock1) → TInv w M (addD D t n)) ∧
      (D t + n = 0 → ∃ es3, (∀ w : World, w.heap[M]? = some (.map es2 clock1) → ∀ ty, (Builtin.delete_ #[90, 126] ty #[.map (some M), pk t]).run Tryz.prog w = .ok (.tuple #[]) (setBlock w M (.map es3 clock1))) ∧ ∀ w : World, w.heap[M]? = some (.map es3 clock1) → TInv w M (addD D t n)) := by
  have hg : ∀ i, inI (t.getD i 0) := fun i => getD_all (p := inI) ht (by unfold inI; omega) i
  obtain ⟨kl, hkl⟩ := packKey11 (n := (t.length : Int)) (by unfold inI; omega) (hg 0) (hg 1) (hg 2)
  change keyOf Tryz.prog 126 (pk t) = some kl at hkl
  obtain ⟨v0, st, es1, clock1, L1, L2, L3, L4⟩ := incr9 (b := M) packLaw11 Tryz.underlying90 (z := .int .i64 0) Tryz.zeroValue3 F hkl
  obtain ⟨es2, S1, S2, S3⟩ := L4 (.int .i64 (D t + n))
  obtain ⟨hT1, hT2, hT3⟩ := hT
  have hinj : ∀ p ∈ ct, pk p.1 = pk t → p.1 = t := fun p hm e => pk_inj (hT2 p hm).1 e
  -- the entries behind the store
  have hkey : v0 = .int .i64 (D t) ∧ ∃ (ct2 : List CntD) (j : Nat), prs9 es2 = ct2.map (fun p => (pk p.1, Value.int .i64 p.2)) ∧ (ct2.map (·.1)).Nodup ∧ ct2[j]? = some (t, D t + n) ∧ (∀ p ∈ ct2, p.1.length ≤ 3 ∧ (p.1 ≠ t → D p.1 = p.2 ∧ p.2 ≠ 0)) ∧ ∀ u, u.length ≤ 3 → u ≠ t → u ∉ ct2.map (·.1) → D u = 0 := by
    rcases S3 with ⟨j, e1, e2⟩ | ⟨e1, e2, e3⟩
    · rw [hp, List.getElem?_map, Option.map_eq_some_iff] at e1
      obtain ⟨q, hq, e⟩ := e1
      obtain ⟨f1, f2⟩ := Prod.mk.inj e
      have hqm := List.mem_of_getElem? hq
      have f3 := hinj q hqm f1
      have f4 := (hT2 q hqm).2.1
      have hq2 : ct[j]? = some (t, D t) := by rw [hq, ← f3, f4]
      have hjl := (List.getElem?_eq_some_iff.1 hq).1
      refine ⟨by rw [← f2, ← f4, f3], ct.set j (t, D t + n), j, by rw [e2, hp, List.map_set], by rw [mapFst_set hq2]; exact hT1, List.getElem?_set_self hjl, fun p hm => ?_, fun u hu hne hn => hT3 u hu (by rw [mapFst_set hq2] at hn; exact hn)⟩
      rcases List.mem_or_eq_of_mem_set hm with h1 | h1
      · exact ⟨(hT2 p h1).1, fun _ => (hT2 p h1).2⟩
      · rw [h1]; exact ⟨h3, fun hne => absurd rfl hne⟩
    · have hnot : t ∉ ct.map (·.1) := fun hm => by
        obtain ⟨p, hpm, e⟩ := List.mem_map.1 hm
        exact e1 (pk p.1, .int .i64 p.2) (by rw [hp]; exact List.mem_map.2 ⟨p, hpm, rfl⟩) (by rw [e])
      have hD0 := hT3 t h3 hnot
      refine ⟨by rw [e2, hD0], ct ++ [(t, D t + n)], ct.length, by rw [e3, hp, List.map_append]; rfl, ?_, by simp, fun p hm => ?_, fun u hu hne hn => hT3 u hu (fun h => hn (by rw [List.map_append]; exact List.mem_append_left _ h))⟩
      · rw [List.map_append, List.nodup_append]
        exact ⟨hT1, by simp, fun x hx y hy e => by simp at hy; subst hy; subst e; exact hnot hx⟩
      · rcases List.mem_append.1 hm with h1 | h1
        · exact ⟨(hT2 p h1).1, fun _ => (hT2 p h1).2⟩
        · rw [List.mem_singleton.1 h1]; exact ⟨h3, fun hne => absurd rfl hne⟩
  obtain ⟨rfl, ct2, j, hp2, hn2, hj2, hc2, ho2⟩ := hkey
  have hent : ∃ e0, es2.toList[j]? = some e0 ∧ e0.key = pk t ∧ e0.val = .int .i64 (D t + n) := by
    have h5 : (prs9 es2)[j]? = some (pk t, .int .i64 (D t + n)) := by rw [hp2, List.getElem?_map, hj2]; rfl
    unfold prs9 at h5
    rw [List.getElem?_map, Option.map_eq_some_iff] at h5
    obtain ⟨e0, h6, h7⟩ := h5
    obtain ⟨h8, h9⟩ := Prod.mk.inj h7
    exact ⟨e0, h6, h8, h9⟩
  obtain ⟨e0, he0, hek, hev⟩ := hent
  refine ⟨kl, st, es1, clock1, es2, L1, L2, L3, S2, fun w hb => ?_, fun hne w hb => ?_, fun hz => ?_⟩
  · rw [← hev]
    exact lookup9_there packLaw11 Tryz.underlying90 hb S1 hkl (List.mem_of_getElem? he0) hek
  · refine ⟨es2, clock1, ct2, hb, S1, hp2, hn2, fun p hm => ⟨(hc2 p hm).1, ?_⟩, fun u hu hn => ?_⟩
    · by_cases e : p.1 = t
      · have : p = (t, D t + n) := by
          obtain ⟨i, hi⟩ := List.mem_iff_getElem?.1 hm
          have a1 : (ct2.map (·.1))[i]? = some t := by rw [List.getElem?_map, hi]; exact congrArg some e
          have a2 : (ct2.map (·.1))[j]? = some t := by rw [List.getElem?_map, hj2]; rfl
          obtain ⟨x1, y1⟩ := List.getElem?_eq_some_iff.1 a1
          obtain ⟨x2, y2⟩ := List.getElem?_eq_some_iff.1 a2
          have := (List.getElem_inj (h₀ := x1) (h₁ := x2) hn2).1 (y1.trans y2.symm)
          subst this
          rw [hi] at hj2
          exact Option.some.inj hj2
        rw [this]
        exact ⟨addD_self D t n, hne⟩
      · rw [addD_ne n e]; exact (hc2 p hm).2 e
    · have hne2 : u ≠ t := fun e => hn (List.mem_map.2 ⟨(t, D t + n), List.mem_of_getElem? hj2, e.symm⟩)
      rw [addD_ne n hne2]; exact ho2 u hu hne2 hn
  · obtain ⟨es3, d1, d2, d3⟩ := delete11 (b := M) packLaw11 Tryz.underlying90 S1 hkl he0 hek
    refine ⟨es3, fun w hb ty => d3 ty w hb, fun w hb => ⟨es3, clock1, ct2.eraseIdx j, hb, d1, by rw [d2, hp2, eraseMap11], ?_, fun p hm => ?_, fun u hu hn => ?_⟩⟩
    · rw [eraseMap11]; exact hn2.sublist (List.eraseIdx_sublist _ _)
    · have hm2 := (List.eraseIdx_sublist ct2 j).subset hm
      have e : p.1 ≠ t := fun e => by
        have a1 : (ct2.map (·.1))[j]? = some t := by rw [List.getElem?_map, hj2]; rfl
        have a2 : t ∈ (ct2.map (·.1)).eraseIdx j := by rw [← eraseMap11, ← e]; exact List.mem_map.2 ⟨p, hm, rfl⟩
        exact not_erase11 hn2 a1 a2
      rw [addD_ne n e]
      exact ⟨(hc2 p hm2).1, (hc2 p hm2).2 e⟩
    · by_cases e : u = t
      · rw [e, addD_self]; exact hz
      · rw [addD_ne n e]
        refine ho2 u hu e (fun h => hn ?_)
        rw [eraseMap11]
        obtain ⟨i, hi⟩ := List.mem_iff_getElem?.1 h
        have a1 : (ct2.map (·.1))[j]? = some t := by rw [List.getElem?_map, hj2]; rfl
        have hij : i ≠ j := fun h => by subst h; rw [a1] at hi; exact e (Option.some.inj hi).symm
        exact List.mem_eraseIdx_iff_getElem?.2 ⟨i, hij, hi⟩
end Go.Proofs.YtnbljidjbknleaaGreat

/-! I11f -/
namespace Go.Proofs.YtnbljidjbknleaaGreat
open Go Go.Sort Go.RowKit Go.Shelf Go.MapKept
open Go.ChangeMaps (setBlock)
set_option linter.unusedVariables false
set_option linter.unusedSimpArgs false
attribute [local go_sem] Oper.semAt_some

/-- A drawn region inside a round of a range over a function, walked with a condition S; it does not panic. -/
theorem wpIn_region_heldN {P : Program} {l n id : Nat} {ops : Array Oper} {Q : Exit → Act → World → Prop} {a : Act} {w : World} (S : World → Prop) (T : Act → World → Prop) (hm : P.follows .mixedOrders = true) (hd : ops.all noDefer = true) (hS : S w.drew)
    (h : S w.drew → wpAnyH P .any ops (fun e a w => e = .normal ∧ T a w) S ops.size (Array.replicate ops.size false) a w.drew) (hT : ∀ a w, T a w → Q .normal a w) : (Code.region id ops true).wpIn (Fence.wide.inRound l) n P Q a w :=
  wpIn_mono (wpIn_region_of hm hd (fun ⟨_, _, h⟩ => by cases h.1) (wpAny_of_held _ _ _ _ (h hS))) (fun e a w ⟨he, ht⟩ => he ▸ hT a w ht)

theorem yields_load_b {ops : Array Oper} {S : World → Prop} {o : Oper} {a : Act} (hgd : o.guard = none) {x : Operand} (ho : o.op = .load 122 x) {g : Nat} {b : List Int} (hok : OkB b) (hx : a.eval x = .pointer (some ⟨g, 0, none⟩)) (hS : ∀ w, S w → w.heap[g]? = some (.cells (bA b) 122 (0, 0))) : YieldsIf Tryz.prog ops S o (bV b) a :=
  Or.inl ⟨by simp [Region.wanted, hgd], fun w h => by
    unfold execOp
    simp only [ho, hx, Instr.loadAt, Instr.sureAddr, Sem.run_bind, Sem.run_pure, Result.andThen_ok, run_loadVar_row w g 122 122 (bA b) (0, 0) _ (hS w h) Tryz.underlying122 rfl (by rw [bA_size hok]; exact info_b)]; rfl⟩
theorem addD_next {D : List Int → Int} {n : Int} {hs : List (List Int)} {t : List Int} : addD (fun u => D u + n * (hs.count u : Int)) t n = fun u => D u + n * ((hs ++ [t]).count u : Int) := by
  funext u
  unfold addD
  rw [List.count_append]
  by_cases h : u = t
  · subst h
    rw [if_pos rfl]
    have : ([u] : List (List Int)).count u = 1 := by simp
    rw [this, Int.natCast_add, Int.mul_add]; simp; omega
  · rw [if_neg h]
    have : ([t] : List (List Int)).count u = 0 := List.count_eq_zero.2 (by simp; exact h)
    rw [this]; simp

theorem step_store_p {ops : Array Oper} {o : Oper} {a : Act} {w : World} {K : Act → World → Prop} {Q : Exit → Act → World → Prop} {F : Prop} (hgd : o.guard = none) {x y : Operand} (ho : o.op = .store 126 x y) {g : Nat} {old cells : Array Value} (hx : a.eval x = .pointer (some ⟨g, 0, none⟩)) (hy : a.eval y = .agg cells) (hold : old.size = 4) (hg : w.heap[g]? = some (.cells old 126 (0, 0))) (hs : cells.size = 4) (h1 : cells.all (·.oneCell') = true) (hi : (Tryz.prog.info? 126).map (·.size) = some 4)
    (hK : K (a.put o.dst undef) (w.setRow g cells)) : if Region.wanted o (yielded ops a.tmps) = true then Oper.wp Tryz.prog o a w K Q else F :=
  step_skip hgd (by
    unfold execOp
    have hr := run_storeVar_row (P := Tryz.prog) w g 126 126 old cells hg (by rw [hs]; exact hi) (by rw [hold, hs]) h1
    simp only [ho, hx, hy, Instr.storeAt, Instr.sureAddr, Sem.run_bind, Sem.run_pure, Result.andThen_ok, hr]) hK

set_option maxRecDepth 100000 in
set_option maxHeartbeats 8000000 in
theorem iAddB_any (w0 w : World) (M : Nat) (vs vq vdb : Value) (s : List Int) (d : QueryD) (db : List AtomD) (hs : RdSchema w0 vs s) (hq : RdQuery w0 vq d) (hdb : RdAtomS w0 vdb db) (hz1 : sizeAtomS d.2 ≤ 1048576) (hz2 : sizeAtomS db ≤ 1048576) (hlen : (bindI s d db).length ≤ 331776)
    (hbw : Below w0.heap.size w0 w) (hM0 : w0.heap.size ≤ M) (D : List Int → Int) (hT : TInv w M D) (hD : ∀ t, -331776 ≤ D t ∧ D t ≤ 331776) (n : Int) (hn : n = 1 ∨ n = -1) :
    Calls Tryz.prog 60 #[.map (some M), vs, vq, vdb, .int .i64 n] w (fun e w' => e = .returned (.tuple #[]) ∧ TInv w' M (fun t => D t + n * (((bindI s d db).map (fun b => d.1.map (valD b))).count t : Int)) ∧ OnlyAt [M] w w') := by
  have hML : M < w.heap.size := by obtain ⟨es, c, ct, h, _⟩ := hT; exact (Array.getElem?_eq_some_iff.1 h).1
  have HST := Lib.hid (fun W hbW B1 B2 B3 g1 g2 g3 n => eachStops w0 W vs vq vdb s d db hs hq hdb hz1 hz2 hbW B1 B2 B3 g1 g2 g3 n)
  have HTUP := Lib.hid (fun W b vh hb hh h3 => iTuple_any W b d.1 vh hb hh h3)
  obtain ⟨sa, sn, sc, rfl, hs⟩ := hs
  obtain ⟨a1, n1, c1, a2, n2, c2, rfl, hq1, hq2⟩ := hq
  obtain ⟨da, dn, dc, rfl, hd5⟩ := hdb
  have HE := Lib.hid (fun W => iEach_any W sa sn sc a1 n1 c1 a2 n2 c2 da dn dc)
  have HLE := Lib.hid hlen
  have HQ1 := Lib.hid hq1
  have HTI := Lib.hid hT
  have HB0 := Lib.hid hbw
  have HN := Lib.hid hn
  have HD := Lib.hid hD
  clear hs hq1 hq2 hd5 hz1 hz2 hlen hT hbw hn hD
  refine (callsIn_wide (n := 6)).1 ?_
  refine callsIn_of_wp_marks Tryz.func60 rfl trivial ?_ rfl
  simp only [Tryz.ntmps60, List.size_toArray, List.length_cons, List.length_nil, Nat.reduceAdd, Nat.reduceSub, Array.replicate_succ, Array.replicate_zero, List.push_toArray, List.append_toArray, List.nil_append, List.cons_append]
  gi_wp2_with (fail)
  refine ⟨trivial, ?_⟩
  refine (callsIn_wide.2 (HE.out _)).mono ?_
  rintro e w4 ⟨rfl, hw4⟩
  gi_wp2_with (fail)
  rw [← hw4]
  have hb2 : Below w.heap.size w ((((w.alloc (.cells #[.map (some M)] 90)).alloc (.cells #[.slice sa sn sc] 33)).alloc (.cells #[.slice a1 n1 c1, .slice a2 n2 c2] 37)).alloc (.cells #[.int .i64 n] 3)) := (((below_alloc w _).trans ((below_alloc _ _).mono (by simp))).trans ((below_alloc _ _).mono (by simp; try omega))).trans ((below_alloc _ _).mono (by simp; try omega))
  have hm2 : ((((w.alloc (.cells #[.map (some M)] 90)).alloc (.cells #[.slice sa sn sc] 33)).alloc (.cells #[.slice a1 n1 c1, .slice a2 n2 c2] 37)).alloc (.cells #[.int .i64 n] 3)).heap[w.heap.size]? = some (.cells #[.map (some M)] 90 (0, 0)) := (Below.heap_alloc _ _ _ (by simp; try omega)).trans ((Below.heap_alloc _ _ _ (by simp; try omega)).trans ((Below.heap_alloc _ _ _ (by simp; try omega)).trans (heap_alloc_new w _)))
  have hq2 : ((((w.alloc (.cells #[.map (some M)] 90)).alloc (.cells #[.slice sa sn sc] 33)).alloc (.cells #[.slice a1 n1 c1, .slice a2 n2 c2] 37)).alloc (.cells #[.int .i64 n] 3)).heap[w.heap.size + 1 + 1]? = some (.cells #[.slice a1 n1 c1, .slice a2 n2 c2] 37 (0, 0)) := (Below.heap_alloc _ _ _ (by simp)).trans (by
    have := heap_alloc_new ((w.alloc (.cells #[.map (some M)] 90)).alloc (.cells #[.slice sa sn sc] 33)) (.cells #[.slice a1 n1 c1, .slice a2 n2 c2] 37); simpa using this)
  have hn2 : ((((w.alloc (.cells #[.map (some M)] 90)).alloc (.cells #[.slice sa sn sc] 33)).alloc (.cells #[.slice a1 n1 c1, .slice a2 n2 c2] 37)).alloc (.cells #[.int .i64 n] 3)).heap[w.heap.size + 1 + 1 + 1]? = some (.cells #[.int .i64 n] 3 (0, 0)) := by
    have := heap_alloc_new (((w.alloc (.cells #[.map (some M)] 90)).alloc (.cells #[.slice sa sn sc] 33)).alloc (.cells #[.slice a1 n1 c1, .slice a2 n2 c2] 37)) (.cells #[.int .i64 n] 3); simpa using this
  have hs2 : ((((w.alloc (.cells #[.map (some M)] 90)).alloc (.cells #[.slice sa sn sc] 33)).alloc (.cells #[.slice a1 n1 c1, .slice a2 n2 c2] 37)).alloc (.cells #[.int .i64 n] 3)).heap.size = w.heap.size + 1 + 1 + 1 + 1 := by simp
  generalize ((((w.alloc (.cells #[.map (some M)] 90)).alloc (.cells #[.slice sa sn sc] 33)).alloc (.cells #[.slice a1 n1 c1, .slice a2 n2 c2] 37)).alloc (.cells #[.int .i64 n] 3)) = w2 at *
  have h24 : Below w2.heap.size w2 w4 := by rw [hw4]; exact ((below_alloc w2 _).trans ((below_alloc _ _).mono (by simp))).trans ((below_alloc _ _).mono (by simp; omega))
  have e1 : w4.heap[w.heap.size + 1 + 1 + 1 + 1]? = some (.cells #[.slice sa sn sc] 33 (0, 0)) := by
    rw [hw4, ← hs2]; exact (Below.heap_alloc _ _ _ (by simp; omega)).trans ((Below.heap_alloc _ _ _ (by simp)).trans (heap_alloc_new w2 _))
  have e2 : w4.heap[w.heap.size + 1 + 1 + 1 + 1 + 1]? = some (.cells #[.slice a1 n1 c1, .slice a2 n2 c2] 37 (0, 0)) := by
    rw [hw4, ← hs2]; refine (Below.heap_alloc _ _ _ (by simp)).trans ?_
    have := heap_alloc_new (w2.alloc (.cells #[.slice sa sn sc] 33)) (.cells #[.slice a1 n1 c1, .slice a2 n2 c2] 37); simpa using this
  have e3 : w4.heap[w.heap.size + 1 + 1 + 1 + 1 + 1 + 1]? = some (.cells #[.slice da dn dc] 30 (0, 0)) := by
    rw [hw4, ← hs2]
    have := heap_alloc_new ((w2.alloc (.cells #[.slice sa sn sc] 33)).alloc (.cells #[.slice a1 n1 c1, .slice a2 n2 c2] 37)) (.cells #[.slice da dn dc] 30); simpa using this
  have hw24 : Below w.heap.size w w4 := bnext hb2 h24
  have hB4 : Below w0.heap.size w0 w4 := bnext HB0.out hw24
  have hT4 : TInv w4 M D := HTI.out.grow hw24
  have m4 := (h24.block _ (Array.getElem?_eq_some_iff.1 hm2).1).trans hm2
  have q4 := (h24.block _ (Array.getElem?_eq_some_iff.1 hq2).1).trans hq2
  have n4 := (h24.block _ (Array.getElem?_eq_some_iff.1 hn2).1).trans hn2
  have hM4 : M < w4.heap.size := Nat.lt_of_lt_of_le hML hw24.size
  clear hw4 hb2 hq2 hm2 hn2 hs2 h24
  refine wpIn_rangeFunc_ownH rfl (by omega) (gf := 106) (lb := #[.pointer (some ⟨w.heap.size + 1 + 1 + 1 + 1, 0, none⟩), .pointer (some ⟨w.heap.size + 1 + 1 + 1 + 1 + 1, 0, none⟩), .pointer (some ⟨w.heap.size + 1 + 1 + 1 + 1 + 1 + 1, 0, none⟩)]) rfl trivial (enters_of Tryz.func106 (by kernel_rfl) rfl)
    (HST.out w4 hB4 _ _ _ e1 e2 e3 5) KpB.trans (kpB_b hB4.size) (Below.refl _ _) (fun _ => rfl)
    (fun (pre : List BB) W => TInv W M (fun t => D t + n * ((pre.map (hdI d)).count t : Int)) ∧ OnlyAt [M] w4 W)
    (fun c pre W => False)
    (OwnFrom.and (TInv.own (fun (pre : List BB) t => D t + n * ((pre.map (hdI d)).count t : Int)) hM4) (own_onlyAt (Nat.le_refl _)))
    (fun c => own_pure _ _)
    ⟨by simpa using hT4, OnlyAt.refl _ _⟩
    (fun x a' W => ∃ Bx, (w4.heap.size ≤ Bx ∧ a' = { tmps := #[.map (some M), .agg #[.slice sa sn sc], .agg #[.slice a1 n1 c1, .slice a2 n2 c2], .slice da dn dc, .int .i64 n, .pointer (some ⟨w.heap.size, 0, none⟩), .pointer (some ⟨w.heap.size + 1, 0, none⟩), .pointer (some ⟨w.heap.size + 1 + 1, 0, none⟩), undef, .pointer (some ⟨w.heap.size + 1 + 1 + 1, 0, none⟩), .pointer (some ⟨Bx, 0, none⟩), undef, .agg #[.slice sa sn sc], .agg #[.slice a1 n1 c1, .slice a2 n2 c2], .slice da dn dc, .func (.func 106) #[] #[.pointer (some ⟨w.heap.size + 1 + 1 + 1 + 1, 0, none⟩), .pointer (some ⟨w.heap.size + 1 + 1 + 1 + 1 + 1, 0, none⟩), .pointer (some ⟨w.heap.size + 1 + 1 + 1 + 1 + 1 + 1, 0, none⟩)], bV x.1, undef, undef, undef, undef, undef, undef, undef, undef, undef, undef, undef, undef, undef, undef, undef, undef, undef, undef, undef, undef, undef], defers := [] }) ∧ W.heap[Bx]? = some (.cells (bA x.1) 122 (0, 0)))
    (fun x a' s A B row hs hg hr => by obtain ⟨Bx, h1, h2⟩ := hs; exact ⟨Bx, h1, own_block w4.heap.size Bx (fun (_ : Unit) => bA x.1) _ () A B row h2 hg hr⟩)
    ?assign ?body ?done ?stop
  case assign =>
    rintro l pre x W K ⟨hI, hko⟩ hK
    have hG := heap_alloc_new W (.cells #[.int .i64 0, .int .i64 0, .int .i64 0, .int .i64 0, .int .i64 0, .int .i64 0, .int .i64 0, .int .i64 0, .int .i64 0, .int .i64 0, .int .i64 0, .int .i64 0, .int .i64 0, .int .i64 0, .int .i64 0, .int .i64 0, .int .i64 0, .int .i64 0, .int .i64 0, .int .i64 0] 122)
    have hx := x.2
    have hsL : (#[.int .i64 0, .int .i64 0, .int .i64 0, .int .i64 0, .int .i64 0, .int .i64 0, .int .i64 0, .int .i64 0, .int .i64 0, .int .i64 0, .int .i64 0, .int .i64 0, .int .i64 0, .int .i64 0, .int .i64 0, .int .i64 0, .int .i64 0, .int .i64 0, .int .i64 0, .int .i64 0] : Array Value).size = 20 := rfl
    have HI := Lib.hid hI
    have HKO := Lib.hid hko
    clear hI hko
    simp only [encB]
    gi_wp2_with ((with_reducible refine wpListIn_store_b rfl _ _ rfl _ _ hx _ hsL ?_ ?_ hG ?_); (focus rfl); (focus rfl))
    have hbn : Below W.heap.size W ((W.alloc (.cells #[.int .i64 0, .int .i64 0, .int .i64 0, .int .i64 0, .int .i64 0, .int .i64 0, .int .i64 0, .int .i64 0, .int .i64 0, .int .i64 0, .int .i64 0, .int .i64 0, .int .i64 0, .int .i64 0, .int .i64 0, .int .i64 0, .int .i64 0, .int .i64 0, .int .i64 0, .int .i64 0] 122)).setRow W.heap.size (bA x.1)) := OnlyAt.below (below_alloc W _) (OnlyAt.setRow _ _ _) (by simp)
    exact hK _ _ (keepsFrom_below hbn) (KpB.ofBelow hbn (Nat.le_trans hB4.size HKO.out.size)) ⟨HI.out.grow hbn, HKO.out.same (OnlyAt.ofBelow _ hbn)⟩ ⟨W.heap.size, ⟨HKO.out.size, rfl⟩, setRow_heap _ _ _ _ _ _ hG⟩
  case body =>
    rintro l pre x a' W hl ⟨r, hr⟩ ⟨hI, hko⟩ ⟨Bx, ⟨hBx, rfl⟩, gx⟩ hlt
    have hfine := bind_fine hlt
    have hd3 := fine_head hfine.1
    obtain ⟨es, clock, ct, m1, m2, m3, m5⟩ := hI
    obtain ⟨t, ht⟩ : ∃ t, t = hdI d x := ⟨_, rfl⟩
    have htl : t.length = d.1.length := by rw [ht]; simp [hdI]
    have htin : ∀ v ∈ t, inI v := by rw [ht]; intro v hv; obtain ⟨q, _, rfl⟩ := List.mem_map.1 hv; exact valD_inI x.2
    obtain ⟨kl, st, es1, clock1, es2, L1, L2, L3, L4, L5, L6, L7⟩ := tally_step (M := M) m2 m3 m5 (by rw [htl]; exact hd3.2) htin n
    simp only [ht, addD_next, ← List.map_singleton (f := hdI d), ← List.map_append] at L6 L7
    rw [← ht] at L6 L7
    have hcle : (((pre.map (hdI d)).count t : Nat) : Int) ≤ 331776 := by
      have h1 := List.count_le_length (a := t) (l := pre.map (hdI d))
      have h2 := HLE.out
      rw [List.length_map] at h1
      omega
    have hDt := HD.out t
    obtain ⟨v, hv⟩ : ∃ v : Int, v = D t + n * ((pre.map (hdI d)).count t : Int) := ⟨_, rfl⟩
    have hvb : -700000 ≤ v ∧ v ≤ 700000 := by rcases HN.out with h | h <;> subst h <;> omega
    have hnb : -1 ≤ n ∧ n ≤ 1 := by rcases HN.out with h | h <;> subst h <;> omega
    simp only [← hv] at L1 L2 L3 L4 L5 L6 L7
    have hwr : IntKind.i64.wrap (v + n) = v + n := by rw [IntKind.wrap_i64]; omega
    obtain ⟨y0, hy0⟩ : ∃ y, y = t.getD 0 0 := ⟨_, rfl⟩
    obtain ⟨y1, hy1⟩ : ∃ y, y = t.getD 1 0 := ⟨_, rfl⟩
    obtain ⟨y2, hy2⟩ : ∃ y, y = t.getD 2 0 := ⟨_, rfl⟩
    have htri : tri t = .agg #[.int .i64 y0, .int .i64 y1, .int .i64 y2] := by rw [hy0, hy1, hy2]; rfl
    have hn1 : n1 = d.1.length := by obtain ⟨_, _, _, e1, e2, _⟩ := HQ1.out.cases; cases e1; exact e2.symm
    have hpk : pk t = .agg #[.int .i64 (n1 : Int), .int .i64 y0, .int .i64 y1, .int .i64 y2] := by unfold pk; rw [htl, ← hn1, hy0, hy1, hy2]
    rw [hpk] at L1 L2 L3 L5 L7
    have hcall : ∀ W' : World, Below w0.heap.size w0 W' → Calls Tryz.prog 92 #[bV x.1, .slice a1 n1 c1] W' (fun e w' => e = .returned (.agg #[.int .i64 y0, .int .i64 y1, .int .i64 y2]) ∧ Below W'.heap.size W' w') := fun W' hb => by
      have := HTUP.out W' x.1 (.slice a1 n1 c1) x.2 (HQ1.out.below hb) hd3.2
      rw [show d.1.map (valD x.1) = t from ht.symm, htri] at this
      exact this
    have hbW0 : Below w0.heap.size w0 W := OnlyAt.below hB4 hko (by simp; omega)
    have gM := (hko.block _ (Array.getElem?_eq_some_iff.1 m4).1 (by simp; omega)).trans m4
    have gQ := (hko.block _ (Array.getElem?_eq_some_iff.1 q4).1 (by simp; omega)).trans q4
    have gN := (hko.block _ (Array.getElem?_eq_some_iff.1 n4).1 (by simp; omega)).trans n4
    have hMW : M < W.heap.size := (Array.getElem?_eq_some_iff.1 m1).1
    have hx := x.2
    have HCALL := Lib.hid hcall
    have HW0 := Lib.hid hbW0
    have HKO := Lib.hid hko
    have HM1 := Lib.hid m1
    have HGX := Lib.hid gx
    have HGM := Lib.hid gM
    have HGQ := Lib.hid gQ
    have HGN := Lib.hid gN
    have HL1 := Lib.hid L1
    have HL2 := Lib.hid L2
    have HL3 := Lib.hid L3
    have HL4 := Lib.hid L4
    have HL5 := Lib.hid L5
    have HL6 := Lib.hid L6
    have HL7 := Lib.hid L7
    have HWR := Lib.hid hwr
    clear hfine hd3 m1 m2 m3 m5 htl htin L1 L2 L3 L4 L5 L6 L7 hcall hbW0 hko gx gM gQ gN hcle hDt hv hy0 hy1 hy2 htri hn1 hpk e1 e2 e3 q4 m4 n4 hwr hT4 hw24
    gi_wp2_with (fail)
    refine wpIn_region_heldN (S := fun w' => w'.cell? ⟨w.heap.size + 1 + 1, 0, none⟩ = some (.slice a1 n1 c1) ∧ w'.heap[Bx]? = some (.cells (bA x.1) 122 (0, 0)) ∧ Below W.heap.size W w') (T := fun a w5 => ∃ X, W.heap.size ≤ X ∧ Below W.heap.size W w5 ∧ w5.heap[X]? = some (.cells #[.int .i64 (n1 : Int), .int .i64 y0, .int .i64 y1, .int .i64 y2] 126 (0, 0)) ∧ a = { tmps := #[.map (some M), .agg #[.slice sa sn sc], .agg #[.slice a1 n1 c1, .slice a2 n2 c2], .slice da dn dc, .int .i64 n, .pointer (some ⟨w.heap.size, 0, none⟩), .pointer (some ⟨w.heap.size + 1, 0, none⟩), .pointer (some ⟨w.heap.size + 1 + 1, 0, none⟩), undef, .pointer (some ⟨w.heap.size + 1 + 1 + 1, 0, none⟩), .pointer (some ⟨Bx, 0, none⟩), .pointer (some ⟨X, 0, none⟩), .agg #[.slice sa sn sc], .agg #[.slice a1 n1 c1, .slice a2 n2 c2], .slice da dn dc, .func (.func 106) #[] #[.pointer (some ⟨w.heap.size + 1 + 1 + 1 + 1, 0, none⟩), .pointer (some ⟨w.heap.size + 1 + 1 + 1 + 1 + 1, 0, none⟩), .pointer (some ⟨w.heap.size + 1 + 1 + 1 + 1 + 1 + 1, 0, none⟩)], bV x.1, .pointer (some ⟨w.heap.size + 1 + 1, 0, none⟩), .slice a1 n1 c1, .int .i64 (n1 : Int), bV x.1, .pointer (some ⟨w.heap.size + 1 + 1, 0, none⟩), .slice a1 n1 c1, .agg #[.int .i64 y0, .int .i64 y1, .int .i64 y2], .agg #[.int .i64 (n1 : Int), .int .i64 y0, .int .i64 y1, .int .i64 y2], undef, undef, undef, undef, undef, undef, undef, undef, undef, undef, undef, undef, undef], defers := [] }) (by kernel_rfl) (by kernel_rfl) ?_ (fun hHeld => ?_) ?_
    · have hb := (Below.refl W.heap.size W).drew
      exact ⟨cell_of_row _ _ 0 _ _ _ (hb.block _ (Array.getElem?_eq_some_iff.1 HGQ.out).1 |>.trans HGQ.out), (hb.block _ (Array.getElem?_eq_some_iff.1 HGX.out).1).trans HGX.out, hb⟩
    · skip
      refine wpAnyH_take (i := 0) (oi := { dst := some 17, op := _, type := _, pos := _, after := _, guard := none }) (v := ?_) rfl (by kernel_rfl) (by kernel_rfl) (by kernel_rfl) (fun _ _ _ h => nomatch h.1) (Or.inl ⟨by rfl, ?_⟩) (by assumption) ?_
      rotate_left
      · (intro w hSw; (try dsimp only at hSw); go_simp <;> with_reducible rfl)
      (try simp only [Act.put, List.setIfInBounds_toArray, List.set_cons_zero, List.set_cons_succ])
      refine wpAnyH_take (i := 1) (oi := { dst := some 18, op := _, type := _, pos := _, after := _, guard := none }) (v := ?_) rfl (by kernel_rfl) (by kernel_rfl) (by kernel_rfl) (fun _ _ _ h => nomatch h.1) (Or.inl ⟨by rfl, ?_⟩) (by assumption) ?_
      rotate_left
      · (intro w hSw; (try dsimp only at hSw); go_simp <;> with_reducible rfl)
      (try simp only [Act.put, List.setIfInBounds_toArray, List.set_cons_zero, List.set_cons_succ])
      refine wpAnyH_take (i := 2) (oi := { dst := some 19, op := _, type := _, pos := _, after := _, guard := none }) (v := ?_) rfl (by kernel_rfl) (by kernel_rfl) (by kernel_rfl) (fun _ _ _ h => nomatch h.1) (Or.inl ⟨by rfl, ?_⟩) (by assumption) ?_
      rotate_left
      · (intro w hSw; (try dsimp only at hSw); go_simp <;> with_reducible rfl)
      (try simp only [Act.put, List.setIfInBounds_toArray, List.set_cons_zero, List.set_cons_succ])
      refine wpAnyH_take (i := 3) (oi := { dst := some 20, op := _, type := _, pos := _, after := _, guard := none }) (v := _) rfl (by kernel_rfl) (by kernel_rfl) (by kernel_rfl) (fun _ _ _ h => nomatch h.1) (yields_load_b rfl rfl hx rfl (fun w h => h.2.1)) (by assumption) ?_
      (try simp only [Act.put, List.setIfInBounds_toArray, List.set_cons_zero, List.set_cons_succ])
      refine wpAnyH_take (i := 4) (oi := { dst := some 21, op := _, type := _, pos := _, after := _, guard := none }) (v := ?_) rfl (by kernel_rfl) (by kernel_rfl) (by kernel_rfl) (fun _ _ _ h => nomatch h.1) (Or.inl ⟨by rfl, ?_⟩) (by assumption) ?_
      rotate_left
      · (intro w hSw; (try dsimp only at hSw); go_simp <;> with_reducible rfl)
      (try simp only [Act.put, List.setIfInBounds_toArray, List.set_cons_zero, List.set_cons_succ])
      refine wpAnyH_take (i := 5) (oi := { dst := some 22, op := _, type := _, pos := _, after := _, guard := none }) (v := ?_) rfl (by kernel_rfl) (by kernel_rfl) (by kernel_rfl) (fun _ _ _ h => nomatch h.1) (Or.inl ⟨by rfl, ?_⟩) (by assumption) ?_
      rotate_left
      · (intro w hSw; (try dsimp only at hSw); go_simp <;> with_reducible rfl)
      (try simp only [Act.put, List.setIfInBounds_toArray, List.set_cons_zero, List.set_cons_succ])
      refine wpAnyH_ready (rs := [6, 8]) (by kernel_rfl) (by simp) ?_
      refine AllReadyH.cons (o := { dst := some 23, op := _, type := _, pos := _, after := _, guard := none }) rfl (fun K hK => ?_) ?_
      · go_simp
        refine (HCALL.out _ (bnext HW0.out hHeld.2.2)).mono ?_
        rintro e w5 ⟨rfl, hb5'⟩
        have hb5 : Below W.heap.size W w5 := bnext hHeld.2.2 hb5'
        go_simp
        refine hK.out _ _ ?_ (fun hHeld => ?_)
        · (try dsimp only)
          exact ⟨cell_of_row _ _ 0 _ _ _ (hb5.block _ (Array.getElem?_eq_some_iff.1 HGQ.out).1 |>.trans HGQ.out), (hb5.block _ (Array.getElem?_eq_some_iff.1 HGX.out).1).trans HGX.out, hb5⟩
        clear hK K
        (try simp only [Act.put, List.setIfInBounds_toArray, List.set_cons_zero, List.set_cons_succ])
        refine wpAnyH_take (i := 7) (oi := { dst := some 24, op := _, type := _, pos := _, after := _, guard := none }) (v := ?_) rfl (by kernel_rfl) (by kernel_rfl) (by kernel_rfl) (fun _ _ _ h => nomatch h.1) (Or.inl ⟨by rfl, ?_⟩) (by assumption) ?_
        rotate_left
        · (intro w hSw; (try dsimp only at hSw); go_simp <;> with_reducible rfl)
        (try simp only [Act.put, List.setIfInBounds_toArray, List.set_cons_zero, List.set_cons_succ])
        refine wpAnyH_ready (rs := [8]) (by kernel_rfl) (by simp) ?_
        refine AllReadyH.cons (o := { dst := some 11, op := _, type := _, pos := _, after := _, guard := none }) rfl (fun K hK => ?_) ?_
        · go_simp
          refine hK.out _ _ ?_ (fun hHeld => ?_)
          · (try dsimp only)
            have hb := bnext hHeld.2.2 (below_alloc _ (.cells #[.int .i64 0, .int .i64 0, .int .i64 0, .int .i64 0] 126))
            exact ⟨cell_of_row _ _ 0 _ _ _ (hb.block _ (Array.getElem?_eq_some_iff.1 HGQ.out).1 |>.trans HGQ.out), (hb.block _ (Array.getElem?_eq_some_iff.1 HGX.out).1).trans HGX.out, hb⟩
          clear hK K
          (try simp only [Act.put, List.setIfInBounds_toArray, List.set_cons_zero, List.set_cons_succ])
          refine wpAnyH_ready (rs := [9]) (by kernel_rfl) (by simp) ?_
          refine AllReadyH.cons (o := { dst := none, op := _, type := _, pos := _, after := _, guard := none }) rfl (fun K hK => ?_) ?_
          · go_simp
            refine hK.out _ _ ?_ (fun hHeld => ?_)
            · (try dsimp only)
              have hb := bnext hb5 (below_alloc _ (.cells #[.int .i64 (n1 : Int), .int .i64 y0, .int .i64 y1, .int .i64 y2] 126))
              exact ⟨cell_of_row _ _ 0 _ _ _ (hb.block _ (Array.getElem?_eq_some_iff.1 HGQ.out).1 |>.trans HGQ.out), (hb.block _ (Array.getElem?_eq_some_iff.1 HGX.out).1).trans HGX.out, hb⟩
            clear hK K
            (try simp only [Act.put, List.setIfInBounds_toArray, List.set_cons_zero, List.set_cons_succ])
            exact wpAnyH_done (by kernel_rfl) ⟨rfl, _, hb5.size, hHeld.2.2, heap_alloc_new w5 _, rfl⟩ _
          exact AllReadyH.nil
        exact AllReadyH.nil
      refine AllReadyH.cons (o := { dst := some 11, op := _, type := _, pos := _, after := _, guard := none }) rfl (fun K hK => ?_) ?_
      · go_simp
        refine hK.out _ _ ?_ (fun hHeld => ?_)
        · (try dsimp only)
          have hb := bnext hHeld.2.2 (below_alloc _ (.cells #[.int .i64 0, .int .i64 0, .int .i64 0, .int .i64 0] 126))
          exact ⟨cell_of_row _ _ 0 _ _ _ (hb.block _ (Array.getElem?_eq_some_iff.1 HGQ.out).1 |>.trans HGQ.out), (hb.block _ (Array.getElem?_eq_some_iff.1 HGX.out).1).trans HGX.out, hb⟩
        clear hK K
        (try simp only [Act.put, List.setIfInBounds_toArray, List.set_cons_zero, List.set_cons_succ])
        refine wpAnyH_ready (rs := [6]) (by kernel_rfl) (by simp) ?_
        refine AllReadyH.cons (o := { dst := some 23, op := _, type := _, pos := _, after := _, guard := none }) rfl (fun K hK => ?_) ?_
        · go_simp
          refine (HCALL.out _ (bnext HW0.out hHeld.2.2)).mono ?_
          rintro e w5 ⟨rfl, hb5'⟩
          have hX : w5.heap[W.heap.size]? = some (.cells #[.int .i64 0, .int .i64 0, .int .i64 0, .int .i64 0] 126 (0, 0)) := (hb5'.block _ (by simp)).trans (heap_alloc_new W.drew _)
          have hb5 : Below W.heap.size W w5 := bnext hHeld.2.2 hb5'
          go_simp
          refine hK.out _ _ ?_ (fun hHeld => ?_)
          · (try dsimp only)
            exact ⟨cell_of_row _ _ 0 _ _ _ (hb5.block _ (Array.getElem?_eq_some_iff.1 HGQ.out).1 |>.trans HGQ.out), (hb5.block _ (Array.getElem?_eq_some_iff.1 HGX.out).1).trans HGX.out, hb5⟩
          clear hK K
          (try simp only [Act.put, List.setIfInBounds_toArray, List.set_cons_zero, List.set_cons_succ])
          refine wpAnyH_take (i := 7) (oi := { dst := some 24, op := _, type := _, pos := _, after := _, guard := none }) (v := ?_) rfl (by kernel_rfl) (by kernel_rfl) (by kernel_rfl) (fun _ _ _ h => nomatch h.1) (Or.inl ⟨by rfl, ?_⟩) (by assumption) ?_
          rotate_left
          · (intro w hSw; (try dsimp only at hSw); go_simp <;> with_reducible rfl)
          (try simp only [Act.put, List.setIfInBounds_toArray, List.set_cons_zero, List.set_cons_succ])
          refine wpAnyH_ready (rs := [9]) (by kernel_rfl) (by simp) ?_
          refine AllReadyH.cons (o := { dst := none, op := _, type := _, pos := _, after := _, guard := none }) rfl (fun K hK => ?_) ?_
          · refine step_store_p rfl rfl rfl rfl rfl hX rfl (by simp [Value.oneCell']) (by kernel_rfl) ?_
            refine hK.out _ _ ?_ (fun hHeld => ?_)
            · (try dsimp only)
              have hb : Below W.heap.size W (w5.setRow W.heap.size #[.int .i64 (n1 : Int), .int .i64 y0, .int .i64 y1, .int .i64 y2]) := OnlyAt.below hb5 (OnlyAt.setRow _ _ _) (by simp)
              exact ⟨cell_of_row _ _ 0 _ _ _ (hb.block _ (Array.getElem?_eq_some_iff.1 HGQ.out).1 |>.trans HGQ.out), (hb.block _ (Array.getElem?_eq_some_iff.1 HGX.out).1).trans HGX.out, hb⟩
            clear hK K
            (try simp only [Act.put, List.setIfInBounds_toArray, List.set_cons_zero, List.set_cons_succ])
            exact wpAnyH_done (by kernel_rfl) ⟨rfl, W.heap.size, Nat.le_refl _, hHeld.2.2, setRow_heap _ _ _ _ _ _ hX, rfl⟩ _
          exact AllReadyH.nil
        exact AllReadyH.nil
      exact AllReadyH.nil
    rintro a w5 ⟨X, hXW, hb5, hX5, rfl⟩
    have HM5 := Lib.hid ((hb5.block _ hMW).trans HM1.out)
    have HG1 := Lib.hid ((hb5.block _ (Array.getElem?_eq_some_iff.1 HGM.out).1).trans HGM.out)
    have HG3 := Lib.hid ((hb5.block _ (Array.getElem?_eq_some_iff.1 HGN.out).1).trans HGN.out)
    have HX5 := Lib.hid hX5
    have HB5 := Lib.hid hb5
    have hMx : M ≠ X := by omega
    have hM1 : M ≠ w.heap.size := by omega
    have hM3 : M ≠ w.heap.size + 1 + 1 + 1 := by omega
    clear hb5 hX5
    gi_wp2_with (fail)
    refine wpIn_region_heldN (S := fun w' => w'.heap[w.heap.size]? = some (.cells #[.map (some M)] 90 (0, 0)) ∧ w'.heap[X]? = some (.cells #[.int .i64 (n1 : Int), .int .i64 y0, .int .i64 y1, .int .i64 y2] 126 (0, 0)) ∧ w'.heap[w.heap.size + 1 + 1 + 1]? = some (.cells #[.int .i64 n] 3 (0, 0))) (T := fun a w7 => OnlyAt [M] w5 w7 ∧ w7.heap[M]? = some (.map es2 clock1) ∧ a = { tmps := #[.map (some M), .agg #[.slice sa sn sc], .agg #[.slice a1 n1 c1, .slice a2 n2 c2], .slice da dn dc, .int .i64 n, .pointer (some ⟨w.heap.size, 0, none⟩), .pointer (some ⟨w.heap.size + 1, 0, none⟩), .pointer (some ⟨w.heap.size + 1 + 1, 0, none⟩), undef, .pointer (some ⟨w.heap.size + 1 + 1 + 1, 0, none⟩), .pointer (some ⟨Bx, 0, none⟩), .pointer (some ⟨X, 0, none⟩), .agg #[.slice sa sn sc], .agg #[.slice a1 n1 c1, .slice a2 n2 c2], .slice da dn dc, .func (.func 106) #[] #[.pointer (some ⟨w.heap.size + 1 + 1 + 1 + 1, 0, none⟩), .pointer (some ⟨w.heap.size + 1 + 1 + 1 + 1 + 1, 0, none⟩), .pointer (some ⟨w.heap.size + 1 + 1 + 1 + 1 + 1 + 1, 0, none⟩)], bV x.1, .pointer (some ⟨w.heap.size + 1 + 1, 0, none⟩), .slice a1 n1 c1, .int .i64 (n1 : Int), bV x.1, .pointer (some ⟨w.heap.size + 1 + 1, 0, none⟩), .slice a1 n1 c1, .agg #[.int .i64 y0, .int .i64 y1, .int .i64 y2], .agg #[.int .i64 (n1 : Int), .int .i64 y0, .int .i64 y1, .int .i64 y2], .map (some M), .agg #[.int .i64 (n1 : Int), .int .i64 y0, .int .i64 y1, .int .i64 y2], .int .i64 v, .int .i64 n, .int .i64 (IntKind.i64.wrap (v + n)), .tuple #[.int .i64 v, goInt st], goInt st, undef, undef, undef, undef, undef, undef], defers := [] }) (by kernel_rfl) (by kernel_rfl) ?_ (fun hHeld => ?_) ?_
    · exact ⟨HG1.out, HX5.out, HG3.out⟩
    · skip
      refine wpAnyH_take (i := 0) (oi := { dst := some 25, op := _, type := _, pos := _, after := _, guard := none }) (v := ?_) rfl (by kernel_rfl) (by kernel_rfl) (by kernel_rfl) (fun _ _ _ h => nomatch h.1) (Or.inl ⟨by rfl, ?_⟩) (by assumption) ?_
      rotate_left
      · (intro wS hSw; obtain ⟨s1, s2, s3⟩ := hSw; have k1 := cell_of_row wS _ 0 _ _ _ s1; have x0 := cell_of_row wS _ 0 _ _ _ s2; have x1 := cell_of_row wS _ 1 _ _ _ s2; have x2 := cell_of_row wS _ 2 _ _ _ s2; have x3 := cell_of_row wS _ 3 _ _ _ s2; have k3 := cell_of_row wS _ 0 _ _ _ s3; simp only [List.getElem?_toArray, List.getElem?_cons_zero, List.getElem?_cons_succ] at k1 x0 x1 x2 x3 k3; go_simp <;> with_reducible rfl)
      (try simp only [Act.put, List.setIfInBounds_toArray, List.set_cons_zero, List.set_cons_succ])
      refine wpAnyH_take (i := 1) (oi := { dst := some 26, op := _, type := _, pos := _, after := _, guard := none }) (v := ?_) rfl (by kernel_rfl) (by kernel_rfl) (by kernel_rfl) (fun _ _ _ h => nomatch h.1) (Or.inl ⟨by rfl, ?_⟩) (by assumption) ?_
      rotate_left
      · (intro wS hSw; obtain ⟨s1, s2, s3⟩ := hSw; have k1 := cell_of_row wS _ 0 _ _ _ s1; have x0 := cell_of_row wS _ 0 _ _ _ s2; have x1 := cell_of_row wS _ 1 _ _ _ s2; have x2 := cell_of_row wS _ 2 _ _ _ s2; have x3 := cell_of_row wS _ 3 _ _ _ s2; have k3 := cell_of_row wS _ 0 _ _ _ s3; simp only [List.getElem?_toArray, List.getElem?_cons_zero, List.getElem?_cons_succ] at k1 x0 x1 x2 x3 k3; go_simp <;> with_reducible rfl)
      (try simp only [Act.put, List.setIfInBounds_toArray, List.set_cons_zero, List.set_cons_succ])
      refine wpAnyH_take (i := 3) (oi := { dst := some 28, op := _, type := _, pos := _, after := _, guard := none }) (v := ?_) rfl (by kernel_rfl) (by kernel_rfl) (by kernel_rfl) (fun _ _ _ h => nomatch h.1) (Or.inl ⟨by rfl, ?_⟩) (by assumption) ?_
      rotate_left
      · (intro wS hSw; obtain ⟨s1, s2, s3⟩ := hSw; have k1 := cell_of_row wS _ 0 _ _ _ s1; have x0 := cell_of_row wS _ 0 _ _ _ s2; have x1 := cell_of_row wS _ 1 _ _ _ s2; have x2 := cell_of_row wS _ 2 _ _ _ s2; have x3 := cell_of_row wS _ 3 _ _ _ s2; have k3 := cell_of_row wS _ 0 _ _ _ s3; simp only [List.getElem?_toArray, List.getElem?_cons_zero, List.getElem?_cons_succ] at k1 x0 x1 x2 x3 k3; go_simp <;> with_reducible rfl)
      (try simp only [Act.put, List.setIfInBounds_toArray, List.set_cons_zero, List.set_cons_succ])
      have HS4 := HL4
      rw [← HWR.out] at HS4
      refine wpAnyH_ready (rs := [2, 5]) (by kernel_rfl) (by simp) ?_
      refine AllReadyH.cons (o := { dst := some 27, op := _, type := _, pos := _, after := _, guard := none }) rfl (fun K hK => ?_) ?_
      · refine step_lookup rfl rfl rfl rfl (HL1.out w5.drew HM5.out) ?_
        refine hK.out _ _ ?_ (fun hHeld => ?_)
        · (try dsimp only)
          exact ⟨HG1.out, HX5.out, HG3.out⟩
        clear hK K
        (try simp only [Act.put, List.setIfInBounds_toArray, List.set_cons_zero, List.set_cons_succ])
        refine wpAnyH_take (i := 4) (oi := { dst := some 29, op := _, type := _, pos := _, after := _, guard := none }) (v := ?_) rfl (by kernel_rfl) (by kernel_rfl) (by kernel_rfl) (fun _ _ _ h => nomatch h.1) (Or.inl ⟨by rfl, ?_⟩) (by assumption) ?_
        rotate_left
        · (intro wS hSw; obtain ⟨s1, s2, s3⟩ := hSw; have k1 := cell_of_row wS _ 0 _ _ _ s1; have x0 := cell_of_row wS _ 0 _ _ _ s2; have x1 := cell_of_row wS _ 1 _ _ _ s2; have x2 := cell_of_row wS _ 2 _ _ _ s2; have x3 := cell_of_row wS _ 3 _ _ _ s2; have k3 := cell_of_row wS _ 0 _ _ _ s3; simp only [List.getElem?_toArray, List.getElem?_cons_zero, List.getElem?_cons_succ] at k1 x0 x1 x2 x3 k3; go_simp <;> with_reducible rfl)
        (try simp only [Act.put, List.setIfInBounds_toArray, List.set_cons_zero, List.set_cons_succ])
        refine wpAnyH_ready (rs := [5]) (by kernel_rfl) (by simp) ?_
        refine AllReadyH.cons (o := { dst := some 30, op := _, type := _, pos := _, after := _, guard := none }) rfl (fun K hK => ?_) ?_
        · refine step_entry rfl rfl rfl rfl (HL3.out w5.drew HM5.out) ?_
          have ho : OnlyAt [M] w5 (setBlock w5.drew M (.map es1 clock1)) := (OnlyAt.ofBelow [M] (Below.refl w5.heap.size w5).drew).same (setBlock_only w5.drew M (.map es1 clock1))
          have HM6 := Lib.hid (setBlock_heap (o' := .map es1 clock1) (show w5.drew.heap[M]? = _ from HM5.out))
          generalize setBlock w5.drew M (.map es1 clock1) = w6 at *
          refine hK.out _ _ ?_ (fun hHeld => ?_)
          · (try dsimp only)
            exact ⟨(ho.block _ (Array.getElem?_eq_some_iff.1 HG1.out).1 (by simp; omega)).trans HG1.out, (ho.block _ (Array.getElem?_eq_some_iff.1 HX5.out).1 (by simp; omega)).trans HX5.out, (ho.block _ (Array.getElem?_eq_some_iff.1 HG3.out).1 (by simp; omega)).trans HG3.out⟩
          clear hK K
          (try simp only [Act.put, List.setIfInBounds_toArray, List.set_cons_zero, List.set_cons_succ])
          refine wpAnyH_take (i := 6) (oi := { dst := some 31, op := _, type := _, pos := _, after := _, guard := none }) (v := ?_) rfl (by kernel_rfl) (by kernel_rfl) (by kernel_rfl) (fun _ _ _ h => nomatch h.1) (Or.inl ⟨by rfl, ?_⟩) (by assumption) ?_
          rotate_left
          · (intro wS hSw; obtain ⟨s1, s2, s3⟩ := hSw; have k1 := cell_of_row wS _ 0 _ _ _ s1; have x0 := cell_of_row wS _ 0 _ _ _ s2; have x1 := cell_of_row wS _ 1 _ _ _ s2; have x2 := cell_of_row wS _ 2 _ _ _ s2; have x3 := cell_of_row wS _ 3 _ _ _ s2; have k3 := cell_of_row wS _ 0 _ _ _ s3; simp only [List.getElem?_toArray, List.getElem?_cons_zero, List.getElem?_cons_succ] at k1 x0 x1 x2 x3 k3; go_simp <;> with_reducible rfl)
          (try simp only [Act.put, List.setIfInBounds_toArray, List.set_cons_zero, List.set_cons_succ])
          refine wpAnyH_ready (rs := [7]) (by kernel_rfl) (by simp) ?_
          refine AllReadyH.cons (o := { dst := none, op := _, type := _, pos := _, after := _, guard := none }) rfl (fun K hK => ?_) ?_
          · refine step_estore rfl rfl rfl rfl rfl (HS4.out _ HM6.out) ?_
            have hx6 := ho
            have ho := hx6.same (setBlock_only w6 M (.map es2 clock1))
            refine hK.out _ _ ?_ (fun hHeld => ?_)
            · (try dsimp only)
              exact ⟨(ho.block _ (Array.getElem?_eq_some_iff.1 HG1.out).1 (by simp; omega)).trans HG1.out, (ho.block _ (Array.getElem?_eq_some_iff.1 HX5.out).1 (by simp; omega)).trans HX5.out, (ho.block _ (Array.getElem?_eq_some_iff.1 HG3.out).1 (by simp; omega)).trans HG3.out⟩
            clear hK K
            (try simp only [Act.put, List.setIfInBounds_toArray, List.set_cons_zero, List.set_cons_succ])
            exact wpAnyH_done (by kernel_rfl) ⟨rfl, ho, setBlock_heap HM6.out, rfl⟩ _
          exact AllReadyH.nil
        exact AllReadyH.nil
      refine AllReadyH.cons (o := { dst := some 30, op := _, type := _, pos := _, after := _, guard := none }) rfl (fun K hK => ?_) ?_
      · refine step_entry rfl rfl rfl rfl (HL3.out w5.drew HM5.out) ?_
        have ho : OnlyAt [M] w5 (setBlock w5.drew M (.map es1 clock1)) := (OnlyAt.ofBelow [M] (Below.refl w5.heap.size w5).drew).same (setBlock_only w5.drew M (.map es1 clock1))
        have HM6 := Lib.hid (setBlock_heap (o' := .map es1 clock1) (show w5.drew.heap[M]? = _ from HM5.out))
        generalize setBlock w5.drew M (.map es1 clock1) = w6 at *
        refine hK.out _ _ ?_ (fun hHeld => ?_)
        · (try dsimp only)
          exact ⟨(ho.block _ (Array.getElem?_eq_some_iff.1 HG1.out).1 (by simp; omega)).trans HG1.out, (ho.block _ (Array.getElem?_eq_some_iff.1 HX5.out).1 (by simp; omega)).trans HX5.out, (ho.block _ (Array.getElem?_eq_some_iff.1 HG3.out).1 (by simp; omega)).trans HG3.out⟩
        clear hK K
        (try simp only [Act.put, List.setIfInBounds_toArray, List.set_cons_zero, List.set_cons_succ])
        refine wpAnyH_take (i := 6) (oi := { dst := some 31, op := _, type := _, pos := _, after := _, guard := none }) (v := ?_) rfl (by kernel_rfl) (by kernel_rfl) (by kernel_rfl) (fun _ _ _ h => nomatch h.1) (Or.inl ⟨by rfl, ?_⟩) (by assumption) ?_
        rotate_left
        · (intro wS hSw; obtain ⟨s1, s2, s3⟩ := hSw; have k1 := cell_of_row wS _ 0 _ _ _ s1; have x0 := cell_of_row wS _ 0 _ _ _ s2; have x1 := cell_of_row wS _ 1 _ _ _ s2; have x2 := cell_of_row wS _ 2 _ _ _ s2; have x3 := cell_of_row wS _ 3 _ _ _ s2; have k3 := cell_of_row wS _ 0 _ _ _ s3; simp only [List.getElem?_toArray, List.getElem?_cons_zero, List.getElem?_cons_succ] at k1 x0 x1 x2 x3 k3; go_simp <;> with_reducible rfl)
        (try simp only [Act.put, List.setIfInBounds_toArray, List.set_cons_zero, List.set_cons_succ])
        refine wpAnyH_ready (rs := [2]) (by kernel_rfl) (by simp) ?_
        refine AllReadyH.cons (o := { dst := some 27, op := _, type := _, pos := _, after := _, guard := none }) rfl (fun K hK => ?_) ?_
        · refine step_lookup rfl rfl rfl rfl (HL2.out _ HM6.out) ?_
          refine hK.out _ _ ?_ (fun hHeld => ?_)
          · (try dsimp only)
            exact ⟨(ho.block _ (Array.getElem?_eq_some_iff.1 HG1.out).1 (by simp; omega)).trans HG1.out, (ho.block _ (Array.getElem?_eq_some_iff.1 HX5.out).1 (by simp; omega)).trans HX5.out, (ho.block _ (Array.getElem?_eq_some_iff.1 HG3.out).1 (by simp; omega)).trans HG3.out⟩
          clear hK K
          (try simp only [Act.put, List.setIfInBounds_toArray, List.set_cons_zero, List.set_cons_succ])
          refine wpAnyH_take (i := 4) (oi := { dst := some 29, op := _, type := _, pos := _, after := _, guard := none }) (v := ?_) rfl (by kernel_rfl) (by kernel_rfl) (by kernel_rfl) (fun _ _ _ h => nomatch h.1) (Or.inl ⟨by rfl, ?_⟩) (by assumption) ?_
          rotate_left
          · (intro wS hSw; obtain ⟨s1, s2, s3⟩ := hSw; have k1 := cell_of_row wS _ 0 _ _ _ s1; have x0 := cell_of_row wS _ 0 _ _ _ s2; have x1 := cell_of_row wS _ 1 _ _ _ s2; have x2 := cell_of_row wS _ 2 _ _ _ s2; have x3 := cell_of_row wS _ 3 _ _ _ s2; have k3 := cell_of_row wS _ 0 _ _ _ s3; simp only [List.getElem?_toArray, List.getElem?_cons_zero, List.getElem?_cons_succ] at k1 x0 x1 x2 x3 k3; go_simp <;> with_reducible rfl)
          (try simp only [Act.put, List.setIfInBounds_toArray, List.set_cons_zero, List.set_cons_succ])
          refine wpAnyH_ready (rs := [7]) (by kernel_rfl) (by simp) ?_
          refine AllReadyH.cons (o := { dst := none, op := _, type := _, pos := _, after := _, guard := none }) rfl (fun K hK => ?_) ?_
          · refine step_estore rfl rfl rfl rfl rfl (HS4.out _ HM6.out) ?_
            have hx6 := ho
            have ho := hx6.same (setBlock_only w6 M (.map es2 clock1))
            refine hK.out _ _ ?_ (fun hHeld => ?_)
            · (try dsimp only)
              exact ⟨(ho.block _ (Array.getElem?_eq_some_iff.1 HG1.out).1 (by simp; omega)).trans HG1.out, (ho.block _ (Array.getElem?_eq_some_iff.1 HX5.out).1 (by simp; omega)).trans HX5.out, (ho.block _ (Array.getElem?_eq_some_iff.1 HG3.out).1 (by simp; omega)).trans HG3.out⟩
            clear hK K
            (try simp only [Act.put, List.setIfInBounds_toArray, List.set_cons_zero, List.set_cons_succ])
            exact wpAnyH_done (by kernel_rfl) ⟨rfl, ho, setBlock_heap HM6.out, rfl⟩ _
          exact AllReadyH.nil
        exact AllReadyH.nil
      exact AllReadyH.nil
    rintro a w7 ⟨ho7, hm7, rfl⟩
    have hon := (OnlyAt.ofBelow [M] HB5.out).same ho7
    have g1 := (ho7.block _ (Array.getElem?_eq_some_iff.1 HG1.out).1 (by simp; omega)).trans HG1.out
    have g2 := (ho7.block _ (Array.getElem?_eq_some_iff.1 HX5.out).1 (by simp; omega)).trans HX5.out
    have k1 : w7.cell? ⟨w.heap.size, 0, none⟩ = some (.map (some M)) := cell_of_row w7 _ 0 _ _ _ g1
    have x0 : w7.cell? ⟨X, 0, none⟩ = some (.int .i64 (n1 : Int)) := cell_of_row w7 _ 0 _ _ _ g2
    have x1 : w7.cell? ⟨X, 1, none⟩ = some (.int .i64 y0) := cell_of_row w7 _ 1 _ _ _ g2
    have x2 : w7.cell? ⟨X, 2, none⟩ = some (.int .i64 y1) := cell_of_row w7 _ 2 _ _ _ g2
    have x3 : w7.cell? ⟨X, 3, none⟩ = some (.int .i64 y2) := cell_of_row w7 _ 3 _ _ _ g2
    have HON := Lib.hid hon
    have HM7 := Lib.hid hm7
    have hlk := HL5.out w7 hm7
    obtain ⟨u, hu⟩ : ∃ u, u = v + n := ⟨_, rfl⟩
    rw [← hu] at hlk
    have HU := Lib.hid hu
    clear hu hon hm7 g1 g2 ho7
    by_cases hu0 : u = 0
    · obtain ⟨es3, d1, d2⟩ := HL7.out (by rw [← HU.out]; exact hu0)
      have hdel := d1 w7 HM7.out
      have HD2 := Lib.hid d2
      clear d1 d2
      subst hu0
      gi_wp2_with (fail)
      have hon2 := HON.out.same (setBlock_only w7 M (.map es3 clock1))
      obtain ⟨f1, f2⟩ := minv_keeps (n₀ := w0.heap.size) (B := w4.heap.size) hon2 HM1.out hM0 HW0.out.size hM4
      exact ⟨f1, f2, HD2.out _ (setBlock_heap HM7.out), HKO.out.same hon2⟩
    · gi_wp2_with (fail)
      obtain ⟨f1, f2⟩ := minv_keeps (n₀ := w0.heap.size) (B := w4.heap.size) HON.out HM1.out hM0 HW0.out.size hM4
      exact ⟨f1, f2, HL6.out (by rw [← HU.out]; exact hu0) _ HM7.out, HKO.out.same HON.out⟩
  case done =>
    rintro D' xs W hD hS ⟨hI, hko⟩ hK
    have HI := Lib.hid hI
    have HKO := Lib.hid hko
    have HDK := Lib.hid hK
    have HS := Lib.hid hS
    clear hI hko hK hS
    gi_wp2_with (fail)
    refine ⟨by simp, .inl ⟨_, _, rfl, run_takeDeferred HDK.out, ?_⟩⟩
    have hput : ∀ k, k < w4.heap.size → (W.putObj D' (.deferred none)).heap[k]? = W.heap[k]? := fun k hk => by
      simp [World.putObj, show ¬ D' = k from by omega]
    have hwW : OnlyAt [M] w W := (OnlyAt.ofBelow [M] hw24).same HKO.out
    refine ⟨_, results_none Tryz.results60 _ _ _, rfl, ?_, hwW.os, hwW.tape, hwW.output, by simpa [World.putObj] using hwW.size, fun k hk hn => (hput k (Nat.lt_of_lt_of_le hk hw24.size)).trans (hwW.block k hk hn)⟩
    obtain ⟨es, c, ct, h1, h2⟩ := HI.out
    rw [show (bindI s d db).map (fun b => d.1.map (valD b)) = xs.map (hdI d) from by rw [← HS.out, List.map_map]; rfl]
    exact ⟨es, c, ct, (hput M hM4).trans h1, h2⟩
  case stop => rintro D' c pre W _ _ h; exact h.elim
end Go.Proofs.YtnbljidjbknleaaGreat

/-! I11g -/
namespace Go.Proofs.YtnbljidjbknleaaGreat
open Go Go.Sort Go.RowKit Go.MapKept
open Go.ChangeMaps (setBlock)
set_option linter.unusedVariables false
set_option linter.unusedSimpArgs false

def bagA (s : List Int) (d : QueryD) (db : List AtomD) : List (List Int) := (bindI s d db).map (fun b => d.1.map (valD b))
theorem bagA_perm (s : List Int) (d : QueryD) (db : List AtomD) : ((bindingsN s d db).map (tupL d.1)).Perm (bagA s d db) := by
  have hv : ∀ b ∈ bindI s d db, d.1.map (valD b) = tupL d.1 b := fun b hb => by
    obtain ⟨i, hi⟩ := List.mem_iff_getElem?.1 hb
    have := bind_fine (List.getElem?_eq_some_iff.1 hi).1
    exact (tup_val (fine_head this.1).1).symm
  have hpb : (bindingsN s d db).Perm (bindI s d db) := by
    have := bind_sorted s d db (sortL (bindI s d db) false) (sortL_asc _ _) (sortL_perm _)
    rw [← this]; exact sortL_perm _
  unfold bagA
  rw [List.map_congr_left hv]
  exact hpb.map _
theorem bagA_3 (s : List Int) (d : QueryD) (db : List AtomD) : ∀ t ∈ bagA s d db, t.length ≤ 3 := fun t ht => by
  obtain ⟨b, hb, rfl⟩ := List.mem_map.1 ht
  obtain ⟨i, hi⟩ := List.mem_iff_getElem?.1 hb
  have := (fine_head (bind_fine (List.getElem?_eq_some_iff.1 hi).1).1).2
  simpa using this
theorem bagA_len (s : List Int) (d : QueryD) (db : List AtomD) (t : List Int) : ((bagA s d db).count t : Int) ≤ 331776 := by
  have h1 := List.count_le_length (a := t) (l := bagA s d db)
  have h2 := bind_len s d db
  unfold bagA at h1 ⊢
  rw [List.length_map] at h1
  omega
theorem count_of (s : List Int) (d : QueryD) (db : List AtomD) (t : List Int) (n : Int) (h : (t, n) ∈ countsN s d db) : n = ((bagA s d db).count t : Int) := by
  rw [counts_eq] at h
  obtain ⟨u, hu, e⟩ := List.mem_map.1 h
  obtain ⟨rfl, rfl⟩ := Prod.mk.inj e
  rw [(bagA_perm s d db).count_eq]
theorem in_counts (s : List Int) (d : QueryD) (db : List AtomD) (t : List Int) (h : t ∈ bagA s d db) : (t, ((bagA s d db).count t : Int)) ∈ countsN s d db := by
  rw [counts_eq]
  refine List.mem_map.2 ⟨t, ?_, by rw [(bagA_perm s d db).count_eq]⟩
  unfold answersN
  exact ((sortL_once _).2 t).2 ((bagA_perm s d db).mem_iff.2 h)
theorem same_iff (s : List Int) (a b : QueryD) (db : List AtomD) : countsN s a db = countsN s b db ↔ ∀ t, (bagA s a db).count t = (bagA s b db).count t := by
  constructor
  · intro h t
    have hab : ∀ (a b : QueryD), countsN s a db = countsN s b db → t ∈ bagA s a db → (bagA s a db).count t = (bagA s b db).count t := fun a b h ht => by
      have h1 := in_counts s a db t ht
      rw [h] at h1
      have := count_of s b db t _ h1
      omega
    by_cases ha : t ∈ bagA s a db
    · exact hab a b h ha
    · by_cases hb : t ∈ bagA s b db
      · exact (hab b a h.symm hb).symm
      · rw [List.count_eq_zero.2 ha, List.count_eq_zero.2 hb]
  · intro h
    have hp : ((bindingsN s a db).map (tupL a.1)).Perm ((bindingsN s b db).map (tupL b.1)) := (bagA_perm s a db).trans ((List.perm_iff_count.2 h).trans (bagA_perm s b db).symm)
    unfold countsN
    rw [show sortL ((bindingsN s a db).map (tupL a.1)) false = sortL ((bindingsN s b db).map (tupL b.1)) false from
      asc_unique (sortL_asc _ _) (sortL_asc _ _) ((sortL_perm _).trans (hp.trans (sortL_perm _).symm))]
/-- The tally is empty iff the counts are the same. -/
theorem tally_empty {s : List Int} {a b : QueryD} {db : List AtomD} {ct : List CntD} (h : TOf (fun t => 0 + 1 * ((bagA s a db).count t : Int) + -1 * ((bagA s b db).count t : Int)) ct) : ct.length = 0 ↔ countsN s a db = countsN s b db := by
  rw [same_iff]
  constructor
  · intro h0 t
    have hn : ct = [] := List.length_eq_zero_iff.1 h0
    by_cases h3 : t.length ≤ 3
    · have := h.2.2 t h3 (by rw [hn]; simp)
      simp only at this
      omega
    · rw [List.count_eq_zero.2 (fun hm => h3 (bagA_3 s a db t hm)), List.count_eq_zero.2 (fun hm => h3 (bagA_3 s b db t hm))]
  · intro hc
    cases ct with
    | nil => rfl
    | cons p ct =>
      have h1 := h.2.1 p (List.mem_cons_self ..)
      have h2 := hc p.1
      simp only at h1
      omega

set_option maxRecDepth 100000 in
set_option maxHeartbeats 8000000 in
theorem iSame_any (w : World) (vs va vb vd : Value) (s : List Int) (da db : QueryD) (l : List AtomD) (hvs : RdSchema w vs s) (ha : RdQuery w va da) (hb : RdQuery w vb db) (hd : RdAtomS w vd l) (h1 : sizeQuery da ≤ 1048576) (h2 : sizeQuery db ≤ 1048576) (hz : sizeAtomS l ≤ 1048576) :
    Calls Tryz.prog 30 #[vs, va, vb, vd] w (GaveBool w (decide (countsN s da l = countsN s db l))) := by
  have HA : Hid (∀ (W : World) (M : Nat) (D : List Int → Int) (n : Int), Below w.heap.size w W → w.heap.size ≤ M → TInv W M D → (∀ t, -331776 ≤ D t ∧ D t ≤ 331776) → (n = 1 ∨ n = -1) → Calls Tryz.prog 60 #[.map (some M), vs, va, vd, .int .i64 n] W (fun e w' => e = .returned (.tuple #[]) ∧ TInv w' M (fun t => D t + n * ((bagA s da l).count t : Int)) ∧ OnlyAt [M] W w')) :=
    fun W M D n hb hM hT hD hn => iAddB_any w W M vs va vd s da l hvs ha hd (by unfold sizeQuery at h1; omega) hz (bind_len _ _ _) hb hM D hT hD n hn
  have HB : Hid (∀ (W : World) (M : Nat) (D : List Int → Int) (n : Int), Below w.heap.size w W → w.heap.size ≤ M → TInv W M D → (∀ t, -331776 ≤ D t ∧ D t ≤ 331776) → (n = 1 ∨ n = -1) → Calls Tryz.prog 60 #[.map (some M), vs, vb, vd, .int .i64 n] W (fun e w' => e = .returned (.tuple #[]) ∧ TInv w' M (fun t => D t + n * ((bagA s db l).count t : Int)) ∧ OnlyAt [M] W w')) :=
    fun W M D n hb' hM hT hD hn => iAddB_any w W M vs vb vd s db l hvs hb hd (by unfold sizeQuery at h2; omega) hz (bind_len _ _ _) hb' hM D hT hD n hn
  obtain ⟨sa, sn, sc, rfl, hs⟩ := hvs
  obtain ⟨a0, h0, c0, a, n, c, rfl, hi, ha⟩ := ha
  obtain ⟨b0, g0, d0, b, m, k, rfl, hj, hb⟩ := hb
  have hb0 : ∀ a b c d, Below w.heap.size w ((((w.alloc a).alloc b).alloc c).alloc d) := fun a b c d => ((((Below.refl _ _).alloc (Nat.le_refl _) _).alloc (by simp) _).alloc (by simp; omega) _).alloc (by simp; omega) _
  have HB0 := Lib.hid hb0
  have hmm := @run_makeMap Tryz.prog
  clear hs hi ha hj hb hb0 hd h1 h2 hz
  go_enter Tryz.func30, Tryz.ntmps30
  go_wp2_with fail
  clear hmm
  obtain ⟨W, hW⟩ : ∃ W, W = (((w.alloc (.cells #[.slice sa sn sc] 33)).alloc (.cells #[.slice a0 h0 c0, .slice a n c] 37)).alloc (.cells #[.slice b0 g0 d0, .slice b m k] 37)).alloc (.map #[] 0) := ⟨_, rfl⟩
  have HBW : Hid (Below w.heap.size w W) := by rw [hW]; exact HB0.out _ _ _ _
  have q0 : W.cell? ⟨w.heap.size, 0, none⟩ = some (.slice sa sn sc) := by rw [hW]; exact cellk (below_alloc _ _) (box1 w _ _ _ _ 0 _ rfl)
  have q3 : W.cell? ⟨w.heap.size + 1 + 1, 0, none⟩ = some (.slice b0 g0 d0) := by rw [hW]; exact cellk (below_alloc _ _) (box3 w _ _ _ _ 0 _ rfl)
  have q4 : W.cell? ⟨w.heap.size + 1 + 1, 1, none⟩ = some (.slice b m k) := by rw [hW]; exact cellk (below_alloc _ _) (box3 w _ _ _ _ 1 _ rfl)
  have hmap : W.heap[w.heap.size + 1 + 1 + 1]? = some (.map #[] 0) := by
    have := heap_alloc_new (((w.alloc (.cells #[.slice sa sn sc] 33)).alloc (.cells #[.slice a0 h0 c0, .slice a n c] 37)).alloc (.cells #[.slice b0 g0 d0, .slice b m k] 37)) (.map #[] 0)
    rw [hW]; simpa using this
  rw [← hW]
  clear hW
  have hT0 : TInv W (w.heap.size + 1 + 1 + 1) (fun _ => 0) := ⟨#[], 0, [], hmap, Keyed9.empty _ _ _, rfl, List.nodup_nil, fun _ h => by simp at h, fun _ _ _ => rfl⟩
  clear hmap
  refine (HA.out W _ _ 1 HBW.out (by omega) hT0 (fun _ => by omega) (.inl rfl)).mono ?_
  rintro e w5 ⟨rfl, hT1, ho1⟩
  have r0 := ho1.cell (by simp; omega) q0
  have r3 := ho1.cell (by simp) q3
  have r4 := ho1.cell (by simp) q4
  have HB5 := Lib.hid (OnlyAt.below HBW.out ho1 (by simp; omega))
  have HT1 := Lib.hid hT1
  clear q0 q3 q4 hT0 hT1 ho1
  go_wp2_with fail
  refine (HB.out w5 _ _ (-1) HB5.out (by omega) HT1.out (fun t => by have := bagA_len s da l t; omega) (.inr rfl)).mono ?_
  rintro e w6 ⟨rfl, hT2, ho2⟩
  have HB6 := Lib.hid (OnlyAt.below HB5.out ho2 (by simp; omega))
  obtain ⟨es, clock, ct, hm, F, hp, hto⟩ := hT2
  have hlen : es.size = ct.length := by
    have := congrArg List.length hp
    unfold prs9 at this
    simpa using this
  have hte := tally_empty hto
  have hln : ∀ ty, (Builtin.len_ #[90] ty #[.map (some (w.heap.size + 1 + 1 + 1))]).run Tryz.prog w6 = .ok (.int .i64 (ct.length : Int)) w6 := fun ty => by
    have := run_len_map (P := Tryz.prog) (w := w6) 90 ty (w.heap.size + 1 + 1 + 1) es clock (by kernel_rfl) hm
    rw [this, hlen]
    rfl
  have HTE := Lib.hid hte
  clear r0 r3 r4 hm F hp hto hlen hte ho2
  obtain ⟨z, hz⟩ : ∃ z, z = ct.length := ⟨_, rfl⟩
  rw [← hz] at hln
  have HZ := Lib.hid hz
  clear hz
  by_cases h0 : z = 0
  · subst h0
    have HC : Hid (countsN s da l = countsN s db l) := HTE.out.1 HZ.out.symm
    go_wp2_with fail
    go_ret
    exact ⟨by rw [decide_eq_true HC.out]; rfl, HB6.out⟩
  · have HC : Hid (¬ countsN s da l = countsN s db l) := fun h => h0 (HZ.out.trans (HTE.out.2 h))
    go_wp2_with fail
    go_ret
    exact ⟨by rw [decide_eq_false HC.out]; simp [h0], HB6.out⟩
end Go.Proofs.YtnbljidjbknleaaGreat

/-! I11h -/
namespace Go.Proofs.YtnbljidjbknleaaGreat
open Go Go.Sort Go.RowKit
set_option linter.unusedVariables false
set_option linter.unusedSimpArgs false

theorem find_at {α : Type} {P : α → Bool} : ∀ {L : List α} {i : Nat} {l : α}, L[i]? = some l → P l = true → (∀ j x, j < i → L[j]? = some x → P x = false) → L.find? P = some l
  | [], i, l, h, _, _ => by simp at h
  | a :: L, 0, l, h, hp, _ => by
    have : a = l := by simpa using h
    subst this
    simp [List.find?, hp]
  | a :: L, i + 1, l, h, hp, hn => by
    have h0 := hn 0 a (by omega) rfl
    simp only [List.find?, h0]
    exact find_at (by simpa using h) hp (fun j x hj hx => hn (j + 1) x (by omega) (by simpa using hx))
theorem bwR_find {s : List Int} {a b : QueryD} (h1 : fineB s a 4 = true) (h2 : fineB s b 4 = true) : bwR s a b = (wsL a ++ wsL b).find? (difB s a b) := by
  unfold bwR
  rw [h1, h2, List.find?_append, find_ws, find_ws]
  simp only [Bool.and_self, if_true]
  cases bwL s a b a <;> rfl
theorem sizeAtomS_le11 {l : List AtomD} (h : ∀ x ∈ l, x.2.length ≤ 3) : sizeAtomS l ≤ 4 * l.length := by
  induction l with
  | nil => simp [sizeAtomS, sumArgs]
  | cons a l ih =>
    have h1 := ih (fun x hx => h x (by simp [hx]))
    have h2 := h a (by simp)
    unfold sizeAtomS sumArgs at h1 ⊢
    simp only [List.length_cons, List.map_cons, List.sum_cons]
    omega
theorem fs2 {W w : World} {b g1 cap1 g2 cap2 n1 n2 : Nat} {vs1 vs2 : List Value} (h1 : BuiltC 30 1 W w (.slice (some ⟨g1, 0, none⟩) n1 cap1) n1 vs1) (o1 : ∀ u ∈ vs1, u.oneCell' = true) (h2 : BuiltC 30 1 W w (.slice (some ⟨g2, 0, none⟩) n2 cap2) n2 vs2) (o2 : ∀ u ∈ vs2, u.oneCell' = true)
    (c1 : w.cell? ⟨b, 0, none⟩ = some (.slice (some ⟨g1, 0, none⟩) n1 cap1)) (c2 : w.cell? ⟨b, 1, none⟩ = some (.slice (some ⟨g2, 0, none⟩) n2 cap2)) : FsRow w b 0 [vs1, vs2] := by
  have key : ∀ {g cap n : Nat} {vs : List Value}, BuiltC 30 1 W w (.slice (some ⟨g, 0, none⟩) n cap) n vs → (∀ u ∈ vs, u.oneCell' = true) → vs.length = n ∧ vs.length ≤ cap ∧ cap ≤ maxLen ∧ (∀ t u, vs[t]? = some u → w.cell? ⟨g, t, none⟩ = some u) := fun {g cap n vs} h o => by
    have hl := h.len
    rcases h.form with ⟨e, _⟩ | ⟨g', cap', e, h3, h4⟩
    · cases e
    · cases e
      refine ⟨by omega, by omega, h4, fun t u ht => ?_⟩
      have := (List.getElem?_eq_some_iff.1 ht).1
      exact (h.cell t (by omega)).trans ht
  obtain ⟨l1, a1, a2, a3⟩ := key h1 o1
  obtain ⟨l2, b1, b2, b3⟩ := key h2 o2
  intro j x hx
  have hj : j = 0 ∨ j = 1 := by have := (List.getElem?_eq_some_iff.1 hx).1; simp at this; omega
  rcases hj with rfl | rfl
  · have : vs1 = x := by simpa using hx
    subst this
    exact ⟨g1, cap1, by rw [l1]; exact c1, a1, a2, a3, o1⟩
  · have : vs2 = x := by simpa using hx
    subst this
    exact ⟨g2, cap2, by rw [l2]; exact c2, b1, b2, b3, o2⟩
theorem WRow.both {w W1 W2 w5 w6 w7 : World} {g1 g2 : Nat} {vs1 vs2 : List Value} {L1 L2 : List (List AtomD)} (h1 : WRow W1 w5 g1 vs1 L1) (h2 : WRow W2 w6 g2 vs2 L2) (b1 : Below w5.heap.size w5 w7) (b2 : Below w6.heap.size w6 w7) (s1 : w.heap.size ≤ W1.heap.size) (s2 : w.heap.size ≤ W2.heap.size) :
    (vs1 ++ vs2).length = (L1 ++ L2).length ∧ ∀ (j : Nat) (v : Value) (l : List AtomD), (vs1 ++ vs2)[j]? = some v → (L1 ++ L2)[j]? = some l → ∃ bs, ROAtomS w7 v l bs ∧ Fresh w w7 bs := by
  refine ⟨by simp [h1.1, h2.1], fun j v l e1 e2 => ?_⟩
  rcases Nat.lt_or_ge j vs1.length with hj | hj
  · rw [List.getElem?_append_left hj] at e1
    rw [List.getElem?_append_left (by rw [← h1.1]; exact hj)] at e2
    obtain ⟨bs, k1, k2, _⟩ := h1.2 j v l e1 e2
    exact ⟨bs, k1.below b1, k2.wide s1 b1.size⟩
  · rw [List.getElem?_append_right hj] at e1
    rw [List.getElem?_append_right (by rw [← h1.1]; exact hj), ← h1.1] at e2
    obtain ⟨bs, k1, k2, _⟩ := h2.2 _ v l e1 e2
    exact ⟨bs, k1.below b2, k2.wide s2 b2.size⟩
theorem wsL_size {q : QueryD} : (wsL q).length ≤ 21 := by
  unfold wsL
  have := varsTo_len q 20
  simp; omega
theorem ws_small {q : QueryD} : ∀ l ∈ wsL q, sizeAtomS l ≤ 1048576 := by
  have hp : ∀ v, sizeAtomS (prN (frzDb q) v (frzDb q).length) ≤ 1048576 := fun v => by
    have h1 := prN_len (x := v) (frzDb_3 q) _ (Nat.le_refl _)
    have h2 := frzDb_8 q
    have h3 : ∀ x ∈ prN (frzDb q) v (frzDb q).length, x.2.length ≤ 3 := fun x hx => by
      obtain ⟨f, hf, a, ha, rfl⟩ := ((prN_ok _ (Nat.le_refl _)).2 x).1 hx
      rw [spL_all v f.2 _ a ha]
      exact frzDb_3 q f (List.mem_of_mem_take hf)
    have := sizeAtomS_le11 h3
    omega
  intro l hl
  unfold wsL at hl
  rcases List.mem_cons.1 hl with rfl | hl
  · have := sizeAtomS_le11 (frzDb_3 q)
    have := frzDb_8 q
    omega
  · obtain ⟨v, _, rfl⟩ := List.mem_map.1 hl
    exact hp _
theorem ws_many {q : QueryD} : ∀ l ∈ wsL q, (∀ x ∈ l, x.2.length ≤ 3) ∧ l.length ≤ 64 := by
  intro l hl
  unfold wsL at hl
  rcases List.mem_cons.1 hl with rfl | hl
  · exact ⟨frzDb_3 q, Nat.le_trans (frzDb_8 q) (by omega)⟩
  · obtain ⟨v, _, rfl⟩ := List.mem_map.1 hl
    refine ⟨fun x hx => ?_, ?_⟩
    · obtain ⟨f, hf, a, ha, rfl⟩ := ((prN_ok _ (Nat.le_refl _)).2 x).1 hx
      rw [spL_all _ f.2 _ a ha]
      exact frzDb_3 q f (List.mem_of_mem_take hf)
    · have h1 := prN_len (x := 80 + v) (frzDb_3 q) _ (Nat.le_refl _)
      have h2 := frzDb_8 q
      omega
theorem bwR_m (s : List Int) (a b : QueryD) : mAtomS ((bwR s a b).getD []) ≤ 1048576 := by
  have key : ∀ l, (∀ x ∈ l, x.2.length ≤ 3) ∧ l.length ≤ 64 → mAtomS l ≤ 1048576 := fun l ⟨h1, h2⟩ => by
    rw [mAtomS_size]
    have := sizeAtomS_le11 h1
    omega
  by_cases hf : (fineB s a 4 && fineB s b 4) = true
  · rw [Bool.and_eq_true] at hf
    rw [bwR_find hf.1 hf.2]
    cases h : (wsL a ++ wsL b).find? (difB s a b) with
    | none => exact key [] ⟨by simp, by simp⟩
    | some l => exact key l ((List.mem_append.1 (List.mem_of_find?_eq_some h)).elim (ws_many l) (ws_many l))
  · unfold bwR
    rw [if_neg hf]
    exact key [] ⟨by simp, by simp⟩
def GaveWitO (w : World) (r : Option (List AtomD)) (e : Ending) (w' : World) : Prop := ∃ v bs, e = .returned (.tuple #[v, .bool r.isSome]) ∧ ROAtomS w' v (r.getD []) bs ∧ Fresh w w' bs ∧ Below w.heap.size w w'
theorem gaveWit_nil (w w' : World) (h : Below w.heap.size w w') : GaveWitO w none (.returned (.tuple #[.slice none 0 0, .bool false])) w' :=
  ⟨.slice none 0 0, [], rfl, ⟨none, 0, 0, rfl, .inl ⟨none, 0, rfl, Nat.zero_le _, rfl, rfl⟩⟩, ⟨List.nodup_nil, fun b hb => by simp at hb⟩, h⟩

set_option maxRecDepth 100000 in
set_option maxHeartbeats 8000000 in
theorem iBagWit_any (w : World) (vs va vb : Value) (s : List Int) (da db : QueryD) (hvs : RdSchema w vs s) (ha : RdQuery w va da) (hb : RdQuery w vb db) (h1 : sizeQuery da ≤ 1048576) (h2 : sizeQuery db ≤ 1048576) :
    Calls Tryz.prog 9 #[vs, va, vb] w (GaveWitO w (bwR s da db)) := by
  have hb0 : ∀ a b c, Below w.heap.size w (((w.alloc a).alloc b).alloc c) := fun a b c => (((Below.refl _ _).alloc (Nat.le_refl _) _).alloc (by simp) _).alloc (by simp; omega) _
  have HB0 := Lib.hid hb0
  have HQA := Lib.hid (fun W (hbW : Below w.heap.size w W) => iIsQuery_any W vs va s da (RdSchema.below hvs hbW) (RdQuery.below ha hbW) (by unfold sizeQuery at h1; omega))
  have HQB := Lib.hid (fun W (hbW : Below w.heap.size w W) => iIsQuery_any W vs vb s db (RdSchema.below hvs hbW) (RdQuery.below hb hbW) (by unfold sizeQuery at h2; omega))
  have HWA := Lib.hid (fun W (hbW : Below w.heap.size w W) => iWits_any W va da (RdQuery.below ha hbW))
  have HWB := Lib.hid (fun W (hbW : Below w.heap.size w W) => iWits_any W vb db (RdQuery.below hb hbW))
  have HID := Lib.hid (fun W (hbW : Below w.heap.size w W) u l (hr : RdAtomS W u l) (hz : sizeAtomS l ≤ 1048576) => iIsDb_any W vs u s l (RdSchema.below hvs hbW) hr hz)
  have HSM := Lib.hid (fun W (hbW : Below w.heap.size w W) u l (hr : RdAtomS W u l) (hz : sizeAtomS l ≤ 1048576) => iSame_any W vs va vb u s da db l (RdSchema.below hvs hbW) (RdQuery.below ha hbW) (RdQuery.below hb hbW) hr h1 h2 hz)
  obtain ⟨sa, sn, sc, rfl, hs⟩ := hvs
  obtain ⟨fa, fn, fc, ga, gn, gc, rfl, hf1, hf2⟩ := ha
  obtain ⟨ta, tn, tc, ua, un, uc, rfl, ht1, ht2⟩ := hb
  have HN : Hid ((fineB s da 4 && fineB s db 4) = false → bwR s da db = none) := Lib.hid (fun h => by unfold bwR; rw [if_neg (by rw [h]; simp)])
  have HY : Hid (fineB s da 4 = true → fineB s db 4 = true → bwR s da db = (wsL da ++ wsL db).find? (difB s da db)) := Lib.hid (fun h h' => bwR_find h h')
  obtain ⟨p1, hp1⟩ : ∃ p, fineB s da 4 = p := ⟨_, rfl⟩
  obtain ⟨p2, hp2⟩ : ∃ p, fineB s db 4 = p := ⟨_, rfl⟩
  rw [hp1] at HQA HN HY
  rw [hp2] at HQB HN HY
  generalize bwR s da db = R at *
  clear hs hf1 hf2 ht1 ht2 h1 h2 hb0 hp1 hp2
  go_enter Tryz.func9, Tryz.ntmps9
  go_wp2_with fail
  obtain ⟨W, hW⟩ : ∃ W, W = ((w.alloc (.cells #[.slice sa sn sc] 33)).alloc (.cells #[.slice fa fn fc, .slice ga gn gc] 37)).alloc (.cells #[.slice ta tn tc, .slice ua un uc] 37) := ⟨_, rfl⟩
  have HBW : Hid (Below w.heap.size w W) := by rw [hW]; exact HB0.out _ _ _
  have q0 : W.cell? ⟨w.heap.size, 0, none⟩ = some (.slice sa sn sc) := by rw [hW]; exact box1 w _ _ _ _ 0 _ rfl
  have q1 : W.cell? ⟨w.heap.size + 1, 0, none⟩ = some (.slice fa fn fc) := by rw [hW]; exact box2 w _ _ _ _ 0 _ rfl
  have q2 : W.cell? ⟨w.heap.size + 1, 1, none⟩ = some (.slice ga gn gc) := by rw [hW]; exact box2 w _ _ _ _ 1 _ rfl
  have q3 : W.cell? ⟨w.heap.size + 1 + 1, 0, none⟩ = some (.slice ta tn tc) := by rw [hW]; exact box3 w _ _ _ _ 0 _ rfl
  have q4 : W.cell? ⟨w.heap.size + 1 + 1, 1, none⟩ = some (.slice ua un uc) := by rw [hW]; exact box3 w _ _ _ _ 1 _ rfl
  rw [← hW]
  clear hW
  refine (HQA.out _ HBW.out).mono ?_
  rintro e w1 ⟨rfl, hbb⟩
  replace q0 := cellk hbb q0
  replace q1 := cellk hbb q1
  replace q2 := cellk hbb q2
  replace q3 := cellk hbb q3
  replace q4 := cellk hbb q4
  have HB1 := Lib.hid (bnext HBW.out hbb)
  clear hbb
  cases p1 with
  | false =>
    have HC : Hid (R = none) := Lib.hid (HN.out rfl)
    go_wp2_with fail
    go_ret2
    rw [HC.out]
    exact gaveWit_nil w w1 HB1.out
  | true =>
    go_wp2_with fail
    refine (HQB.out _ HB1.out).mono ?_
    rintro e w2 ⟨rfl, hbb⟩
    replace q0 := cellk hbb q0
    replace q1 := cellk hbb q1
    replace q2 := cellk hbb q2
    replace q3 := cellk hbb q3
    replace q4 := cellk hbb q4
    have HB2 := Lib.hid (bnext HB1.out hbb)
    clear hbb
    cases p2 with
    | false =>
      have HC : Hid (R = none) := Lib.hid (HN.out rfl)
      go_wp2_with fail
      go_ret2
      rw [HC.out]
      exact gaveWit_nil w w2 HB2.out
    | true =>
      have HR : Hid (R = (wsL da ++ wsL db).find? (difB s da db)) := Lib.hid (HY.out (by first | rfl | trivial) (by first | rfl | trivial))
      go_wp2_with fail
      refine wp_region_noPanic ?_
      refine wp_region_held_drew (S := fun w' => w'.cell? ⟨w.heap.size + 1, 0, none⟩ = some (.slice fa fn fc) ∧ w'.cell? ⟨w.heap.size + 1, 1, none⟩ = some (.slice ga gn gc) ∧ w'.cell? ⟨w.heap.size + 1 + 1, 0, none⟩ = some (.slice ta tn tc) ∧ w'.cell? ⟨w.heap.size + 1 + 1, 1, none⟩ = some (.slice ua un uc) ∧ Below w2.heap.size w2 w') (by kernel_rfl) ?_ (fun hHeld => ?_)
      · have hb := (Below.refl w2.heap.size w2).drew
        exact ⟨cellk hb q1, cellk hb q2, cellk hb q3, cellk hb q4, hb⟩
      refine wpAnyH_take (i := 0) (oi := { dst := some 20, op := _, type := _, pos := _, after := _, guard := none }) (v := ?_) rfl (by kernel_rfl) (by kernel_rfl) (by kernel_rfl) (fun _ _ _ h => h) (Or.inl ⟨by rfl, ?_⟩) (by assumption) ?_
      rotate_left
      · (intro wS hSw; obtain ⟨s1, s2, s3, s4, s5⟩ := hSw; go_simp <;> with_reducible rfl)
      (try simp only [Act.put, List.setIfInBounds_toArray, List.set_cons_zero, List.set_cons_succ])
      refine wpAnyH_take (i := 2) (oi := { dst := some 22, op := _, type := _, pos := _, after := _, guard := none }) (v := ?_) rfl (by kernel_rfl) (by kernel_rfl) (by kernel_rfl) (fun _ _ _ h => h) (Or.inl ⟨by rfl, ?_⟩) (by assumption) ?_
      rotate_left
      · (intro wS hSw; obtain ⟨s1, s2, s3, s4, s5⟩ := hSw; go_simp <;> with_reducible rfl)
      (try simp only [Act.put, List.setIfInBounds_toArray, List.set_cons_zero, List.set_cons_succ])
      refine wpAnyH_take (i := 7) (oi := { dst := some 27, op := _, type := _, pos := _, after := _, guard := none }) (v := ?_) rfl (by kernel_rfl) (by kernel_rfl) (by kernel_rfl) (fun _ _ _ h => h) (Or.inl ⟨by rfl, ?_⟩) (by assumption) ?_
      rotate_left
      · (intro wS hSw; obtain ⟨s1, s2, s3, s4, s5⟩ := hSw; go_simp <;> with_reducible rfl)
      (try simp only [Act.put, List.setIfInBounds_toArray, List.set_cons_zero, List.set_cons_succ])
      refine wpAnyH_ready (rs := [1]) (by kernel_rfl) (by simp) ?_
      refine AllReadyH.cons (o := { dst := some 21, op := _, type := _, pos := _, after := _, guard := none }) rfl (fun K hK => ?_) AllReadyH.nil
      go_simp
      refine (HWA.out _ (bnext HB2.out hHeld.2.2.2.2)).mono ?_
      rintro e w5 ⟨g1, cap1, vs1, rfl, hbu1, hwr1⟩
      have hb5 : Below w2.heap.size w2 w5 := bnext hHeld.2.2.2.2 hbu1.2
      have hwr1 := hwr1
      have HU1 := Lib.hid (hbu1.rebase (bnext HB2.out hHeld.2.2.2.2))
      have HW1 := Lib.hid hwr1
      have HH1 := Lib.hid hHeld
      clear hbu1 hwr1
      go_simp
      refine hK.out _ _ ?_ (fun hHeld => ?_)
      · (try dsimp only)
        exact ⟨cellk hb5 q1, cellk hb5 q2, cellk hb5 q3, cellk hb5 q4, hb5⟩
      clear hK K
      (try simp only [Act.put, List.setIfInBounds_toArray, List.set_cons_zero, List.set_cons_succ])
      refine wpAnyH_ready (rs := [3]) (by kernel_rfl) (by simp) ?_
      refine AllReadyH.cons (o := { dst := some 23, op := _, type := _, pos := _, after := _, guard := none }) rfl (fun K hK => ?_) AllReadyH.nil
      go_simp
      refine (HWB.out _ (bnext HB2.out hHeld.2.2.2.2)).mono ?_
      rintro e w6 ⟨g2, cap2, vs2, rfl, hbu2, hwr2⟩
      have hb6 : Below w2.heap.size w2 w6 := bnext hHeld.2.2.2.2 hbu2.2
      have HB56 := Lib.hid hbu2.2
      have HU2 := Lib.hid (hbu2.rebase (bnext HB2.out hHeld.2.2.2.2))
      have HW2 := Lib.hid hwr2
      clear hbu2 hwr2
      go_simp
      refine hK.out _ _ ?_ (fun hHeld => ?_)
      · (try dsimp only)
        exact ⟨cellk hb6 q1, cellk hb6 q2, cellk hb6 q3, cellk hb6 q4, hb6⟩
      clear hK K
      (try simp only [Act.put, List.setIfInBounds_toArray, List.set_cons_zero, List.set_cons_succ])
      refine wpAnyH_ready (rs := [4]) (by kernel_rfl) (by simp) ?_
      refine AllReadyH.cons (o := { dst := some 24, op := _, type := _, pos := _, after := _, guard := none }) rfl (fun K hK => ?_) AllReadyH.nil
      go_simp
      refine hK.out _ _ ?_ (fun hHeld => ?_)
      · (try dsimp only)
        have hb := bnext hb6 (below_alloc w6 (.cells #[.slice (some ⟨g1, 0, none⟩) (wsL da).length cap1, .slice (some ⟨g2, 0, none⟩) (wsL db).length cap2] 56))
        exact ⟨cellk hb q1, cellk hb q2, cellk hb q3, cellk hb q4, hb⟩
      clear hK K
      (try simp only [Act.put, List.setIfInBounds_toArray, List.set_cons_zero, List.set_cons_succ])
      have HB6 := Lib.hid hb6
      have HB5 := Lib.hid hb5
      have hn6 := heap_alloc_new w6 (.cells #[.slice (some ⟨g1, 0, none⟩) (wsL da).length cap1, .slice (some ⟨g2, 0, none⟩) (wsL db).length cap2] 56)
      have HA6 := Lib.hid (below_alloc w6 (.cells #[.slice (some ⟨g1, 0, none⟩) (wsL da).length cap1, .slice (some ⟨g2, 0, none⟩) (wsL db).length cap2] 56))
      obtain ⟨g6, hg6⟩ : ∃ x, x = w6.heap.size := ⟨_, rfl⟩
      rw [← hg6] at hn6
      simp only [← hg6]
      obtain ⟨W6, hW6⟩ : ∃ x, x = w6.alloc (.cells #[.slice (some ⟨g1, 0, none⟩) (wsL da).length cap1, .slice (some ⟨g2, 0, none⟩) (wsL db).length cap2] 56) := ⟨_, rfl⟩
      rw [← hW6] at hn6 HA6 hHeld ⊢
      clear hW6 hg6 hb6 hb5
      have HFS : Hid (FsRow W6 g6 0 [vs1, vs2]) := Lib.hid (fs2 (HU1.out.grow (bnext HB56.out HA6.out)) HW1.out.one (HU2.out.grow HA6.out) HW2.out.one (cell_of_row W6 _ 0 _ _ _ hn6) (cell_of_row W6 _ 1 _ _ _ hn6))
      have hl1 : vs1.length = (wsL da).length := HW1.out.1
      have hl2 : vs2.length = (wsL db).length := HW2.out.1
      have hs1 : (wsL da).length ≤ 21 := wsL_size
      have hs2 : (wsL db).length ≤ 21 := wsL_size
      have hp1 : 1 ≤ (wsL da).length := by unfold wsL; simp
      have HCC := Lib.hid (iConcatF_any W6 g6 0 2 2 [vs1, vs2] HFS.out rfl (by omega) (by simp; omega))
      have HL1 := Lib.hid hl1
      have HL2 := Lib.hid hl2
      have HS1 := Lib.hid hs1
      have HS2 := Lib.hid hs2
      have HP1 := Lib.hid hp1
      clear hn6 hl1 hl2 hs1 hs2 hp1
      refine wpAnyH_ready (rs := [5]) (by kernel_rfl) (by simp) ?_
      refine AllReadyH.cons (o := { dst := some 25, op := _, type := _, pos := _, after := _, guard := none }) rfl (fun K hK => ?_) AllReadyH.nil
      go_simp
      refine HCC.out.mono ?_
      rintro e w7 ⟨v7, rfl, hbu7⟩
      have hb7 : Below w2.heap.size w2 w7 := bnext hHeld.2.2.2.2 hbu7.2
      have HB67 := Lib.hid hbu7.2
      have HU7 := Lib.hid hbu7
      obtain ⟨N, hN⟩ : ∃ N, N = [vs1, vs2].flatten.length := ⟨_, rfl⟩
      have hNL : N = vs1.length + vs2.length := by rw [hN]; simp
      obtain ⟨g7, cap7, rfl⟩ : ∃ g cap, v7 = .slice (some ⟨g, 0, none⟩) N cap := by
        rcases hbu7.form with ⟨_, e⟩ | ⟨g, cap, e, _⟩
        · have := HP1.out; have := HL1.out; omega
        · exact ⟨g, cap, by rw [e, hN]⟩
      rw [← hN] at HU7
      have HNL := Lib.hid hNL
      clear hbu7 hN hNL
      go_simp
      refine hK.out _ _ ?_ (fun hHeld => ?_)
      · (try dsimp only)
        exact ⟨cellk hb7 q1, cellk hb7 q2, cellk hb7 q3, cellk hb7 q4, hb7⟩
      clear hK K
      (try simp only [Act.put, List.setIfInBounds_toArray, List.set_cons_zero, List.set_cons_succ])
      refine wpAnyH_take (i := 6) (oi := { dst := some 26, op := _, type := _, pos := _, after := _, guard := none }) (v := ?_) rfl (by kernel_rfl) (by kernel_rfl) (by kernel_rfl) (fun _ _ _ h => h) (Or.inl ⟨by rfl, ?_⟩) (by assumption) ?_
      rotate_left
      · (intro wS hSw; obtain ⟨s1, s2, s3, s4, s5⟩ := hSw; go_simp <;> with_reducible rfl)
      (try simp only [Act.put, List.setIfInBounds_toArray, List.set_cons_zero, List.set_cons_succ])
      refine wpAnyH_done (by kernel_rfl) ?_ _
      refine NoPanic.normal ?_
      have HB27 := Lib.hid (bnext HB2.out hHeld.2.2.2.2)
      have HBO := Lib.hid (WRow.both (w := w) HW1.out HW2.out (bnext HB56.out (bnext HA6.out HB67.out)) (bnext HA6.out HB67.out) HB2.out.size (Nat.le_trans HB2.out.size HB5.out.size))
      have HU7' : Hid (BuiltC 30 1 W6 w7 (.slice (some ⟨g7, 0, none⟩) N cap7) N (vs1 ++ vs2)) := Lib.hid (by have := HU7.out; simpa using this)
      have HVL : Hid ((vs1 ++ vs2).length = N) := Lib.hid (by have := HU7'.out.len; simpa using this)
      have HSZ : Hid (∀ l ∈ wsL da ++ wsL db, sizeAtomS l ≤ 1048576) := Lib.hid (fun l hl => (List.mem_append.1 hl).elim (ws_small l) (ws_small l))
      have q0 := cellk (show Below w2.heap.size w2 w7 from hHeld.2.2.2.2) q0
      have k1 := hHeld.1
      have k2 := hHeld.2.1
      have k3 := hHeld.2.2.1
      have k4 := hHeld.2.2.2.1
      have hN1 : N ≤ 42 := by have := HNL.out; have := HL1.out; have := HL2.out; have := HS1.out; have := HS2.out; omega
      clear hHeld
      go_wp2_with fail
      generalize vs1 ++ vs2 = vs at *
      generalize wsL da ++ wsL db = L at *
      go_loopw [27] (fun iv wr => ∃ i : Nat, i ≤ N ∧ iv = .int .i64 i ∧ Below w7.heap.size w7 wr ∧ Hid (∀ j x, j < i → L[j]? = some x → difB s da db x = false)) (fun iv _ => N - (intOf iv).toNat)
      case atStart => exact ⟨0, by omega, rfl, Below.refl _ _, fun j x h => by omega⟩
      case round =>
        obtain ⟨i, hi, rfl, hbr, HNO⟩ := hrel
        have HBR := Lib.hid hbr
        by_cases hlt : i < N
        · obtain ⟨u, hu⟩ : ∃ u, vs[i]? = some u := ⟨vs[i]'(by rw [HVL.out]; exact hlt), List.getElem?_eq_getElem _⟩
          obtain ⟨l, hl⟩ : ∃ l, L[i]? = some l := ⟨L[i]'(by rw [← HBO.out.1, HVL.out]; exact hlt), List.getElem?_eq_getElem _⟩
          obtain ⟨bs, hro, hfr⟩ := HBO.out.2 i u l hu hl
          have hc7 := (HU7'.out.cell i (by omega)).trans hu
          obtain ⟨ra, rn, rc, rfl⟩ : ∃ a n c, u = .slice a n c := by obtain ⟨a, n, c, e, _⟩ := hro; exact ⟨a, n, c, e⟩
          have c7 := cellk hbr hc7
          have r0 := cellk hbr q0
          have r1 := cellk hbr k1
          have r2 := cellk hbr k2
          have r3 := cellk hbr k3
          have r4 := cellk hbr k4
          have hi0 : (0 : Int) ≤ i := by omega
          have hi1 : (i : Int) < N := by omega
          have HLI := Lib.hid hl
          have HRO := Lib.hid hro
          have HFR := Lib.hid hfr
          have hz := HSZ.out l (List.mem_of_getElem? hl)
          have HZ := Lib.hid hz
          obtain ⟨p, hp⟩ : ∃ p, isDbB s l = p := ⟨_, rfl⟩
          obtain ⟨q, hq⟩ : ∃ q, decide (countsN s da l = countsN s db l) = q := ⟨_, rfl⟩
          have HDI : Hid (difB s da db l = (p && !q)) := Lib.hid (by unfold difB; rw [hp, hq])
          have hid := Lib.hid (HID.out wr (bnext HB27.out hbr) (.slice ra rn rc) l (hro.rd.below hbr) hz)
          rw [hp] at hid
          have hsm := Lib.hid (fun W' (h : Below wr.heap.size wr W') => HSM.out W' (bnext HB27.out (bnext hbr h)) (.slice ra rn rc) l ((hro.rd.below hbr).below h) hz)
          rw [hq] at hsm
          clear hu hl hro hfr hc7 hz hp hq hbr
          go_wp2_with fail
          refine hid.out.mono ?_
          rintro e w8 ⟨rfl, hb8⟩
          have HB8 := Lib.hid (bnext HBR.out hb8)
          replace r0 := cellk hb8 r0
          replace r1 := cellk hb8 r1
          replace r2 := cellk hb8 r2
          replace r3 := cellk hb8 r3
          replace r4 := cellk hb8 r4
          cases p with
          | false =>
            have HNX : Hid (∀ j x, j < i + 1 → L[j]? = some x → difB s da db x = false) := Lib.hid (fun j x hj hx => by
              rcases Nat.lt_or_ge j i with h | h
              · exact HNO j x h hx
              · obtain rfl : j = i := by omega
                rw [HLI.out] at hx; cases hx
                rw [HDI.out]; rfl)
            clear hb8 c7
            go_wp2_with fail
            exact ⟨⟨i + 1, by omega, by simp, HB8.out, HNX.out⟩, by simp [intOf]; omega⟩
          | true =>
            go_wp2_with fail
            refine (hsm.out w8 hb8).mono ?_
            rintro e w9 ⟨rfl, hb9⟩
            have HB9 := Lib.hid (bnext HB8.out hb9)
            clear hb8 hb9 c7 r0 r1 r2 r3 r4
            cases q with
            | true =>
              have HNX : Hid (∀ j x, j < i + 1 → L[j]? = some x → difB s da db x = false) := Lib.hid (fun j x hj hx => by
                rcases Nat.lt_or_ge j i with h | h
                · exact HNO j x h hx
                · obtain rfl : j = i := by omega
                  rw [HLI.out] at hx; cases hx
                  rw [HDI.out]; rfl)
              go_wp2_with fail
              exact ⟨⟨i + 1, by omega, by simp, HB9.out, HNX.out⟩, by simp [intOf]; omega⟩
            | false =>
              have HRR : Hid (R = some l) := Lib.hid (by rw [HR.out]; exact find_at HLI.out (by rw [HDI.out]; rfl) HNO)
              go_wp2_with fail
              go_ret2
              rw [HRR.out]
              exact ⟨_, bs, rfl, HRO.out.below HB9.out, HFR.out.wide (Nat.le_refl _) HB9.out.size, bnext HB27.out HB9.out⟩
        · obtain rfl : i = N := by omega
          have HRR : Hid (R = none) := Lib.hid (by
            rw [HR.out]
            refine List.find?_eq_none.2 (fun x hx => ?_)
            obtain ⟨j, hj⟩ := List.mem_iff_getElem?.1 hx
            have := (List.getElem?_eq_some_iff.1 hj).1
            rw [HNO j x (by rw [← HVL.out, HBO.out.1]; exact this) hj]
            simp)
          clear hbr
          go_wp2_with fail
          go_ret2
          rw [HRR.out]
          exact gaveWit_nil w wr (bnext HB27.out HBR.out)
end Go.Proofs.YtnbljidjbknleaaGreat
