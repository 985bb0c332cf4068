/- Merged of I6cans, I6ans, I6cms. -/
import Derived.Test.YtnbljidjbknleaaGreatI6mkr
import Derived.Test.YtnbljidjbknleaaGreatI6cw
import Derived.Test.YtnbljidjbknleaaGreatI6cs
/-! I6cans -/
namespace Go.Proofs.YtnbljidjbknleaaGreat
open Go Go.Sort Go.RowKit Go.Shelf
open Go.ChangeMaps (setBlock)
set_option linter.unusedVariables false
attribute [local go_sem] Oper.semAt_some

/-- The counts of what came so far. -/
def CntOf (hs : List (List Int)) (ct : List CntD) : Prop := (ct.map (·.1)).Nodup ∧ (∀ t, t ∈ ct.map (·.1) ↔ t ∈ hs) ∧ ∀ p ∈ ct, p.2 = (hs.count p.1 : Int)
theorem CntOf.nil : CntOf [] [] := ⟨List.Pairwise.nil, fun t => by simp, fun p hp => by cases hp⟩
theorem CntOf.anew {hs : List (List Int)} {ct : List CntD} (h : CntOf hs ct) {t : List Int} (ht : t ∉ ct.map (·.1)) : CntOf (hs ++ [t]) (ct ++ [(t, 1)]) := by
  obtain ⟨h1, h2, h3⟩ := h
  have hth : t ∉ hs := fun hh => ht ((h2 t).2 hh)
  refine ⟨?_, fun u => ?_, fun p hp => ?_⟩
  · rw [List.map_append, List.nodup_append]
    exact ⟨h1, by simp, fun x hx y hy e => by simp at hy; subst hy; subst e; exact ht hx⟩
  · rw [List.map_append, List.mem_append, List.mem_append, h2 u]; simp
  · rw [List.count_append]
    rcases List.mem_append.1 hp with h | h
    · have hne : p.1 ≠ t := fun e => ht (by rw [← e]; exact List.mem_map.2 ⟨p, h, rfl⟩)
      have : ([t] : List (List Int)).count p.1 = 0 := by rw [List.count_eq_zero]; simp [hne]
      rw [h3 p h, this]; simp
    · rw [List.mem_singleton.1 h]
      have : hs.count t = 0 := List.count_eq_zero.2 hth
      simp [this]
theorem CntOf.more {hs : List (List Int)} {ct : List CntD} (h : CntOf hs ct) {t : List Int} {c : Int} {j : Nat} (hj : ct[j]? = some (t, c)) : CntOf (hs ++ [t]) (ct.set j (t, c + 1)) := by
  obtain ⟨h1, h2, h3⟩ := h
  have hjl := (List.getElem?_eq_some_iff.1 hj).1
  have hje := (List.getElem?_eq_some_iff.1 hj).2
  have hmap : (ct.set j (t, c + 1)).map (·.1) = ct.map (·.1) := by
    rw [List.map_set]
    refine List.ext_getElem (by simp) (fun i a b => ?_)
    rw [List.getElem_set]
    split
    · rename_i e; subst e; rw [List.getElem_map, hje]
    · rfl
  have hm : (t, c) ∈ ct := List.mem_of_getElem? hj
  have htm : t ∈ ct.map (·.1) := List.mem_map.2 ⟨_, hm, rfl⟩
  refine ⟨by rw [hmap]; exact h1, fun u => ?_, fun p hp => ?_⟩
  · rw [hmap, h2 u, List.mem_append]
    constructor
    · exact .inl
    · rintro (h | h)
      · exact h
      · rw [List.mem_singleton.1 h]; exact (h2 t).1 htm
  · obtain ⟨i, hi⟩ := List.mem_iff_getElem?.1 hp
    rw [List.count_append]
    by_cases e : j = i
    · subst e
      rw [List.getElem?_set_self hjl] at hi
      cases hi
      have := h3 _ hm
      simp only at this
      simp [this]
    · rw [List.getElem?_set_ne e] at hi
      have hpm := List.mem_of_getElem? hi
      have hne : p.1 ≠ t := fun e2 => by
        obtain ⟨a1, b1⟩ := List.getElem?_eq_some_iff.1 hi
        have := (List.getElem_inj (h₀ := by simpa using hjl) (h₁ := by simpa using a1) (xs := ct.map (·.1)) (i := j) (j := i) h1).1 (by rw [List.getElem_map, List.getElem_map, hje, b1, e2])
        exact e this
      have : ([t] : List (List Int)).count p.1 = 0 := by rw [List.count_eq_zero]; simp [hne]
      rw [h3 p hpm, this]; simp
/-- The map of counts, in block M. -/
def MInv (W : World) (M : Nat) (hs : List (List Int)) : Prop := ∃ es clock ct, W.heap[M]? = some (.map es clock) ∧ Keyed Tryz.prog 123 es clock ∧ prs es = ct.map (fun p => (tri p.1, Value.int .i64 p.2)) ∧ CntOf hs ct
theorem MInv.own {β : Type} (f : β → List (List Int)) {M B : Nat} (hM : M < B) : OwnFrom B (fun (s : β) W => MInv W M (f s)) := by
  intro s A A' row ⟨es, clock, ct, h1, h2⟩ hg hr
  exact ⟨es, clock, ct, (hg.block M (Array.getElem?_eq_some_iff.1 h1).1 (fun e => by have := (hr M e.symm).1; omega)).trans h1, h2⟩
theorem own_onlyAt {β : Type} {B : Nat} {bs : List Nat} {w0 : World} (hB : w0.heap.size ≤ B) : OwnFrom B (fun (_ : β) W => OnlyAt bs w0 W) := fun s A A' row hs hg hr =>
  ⟨hg.os.trans hs.os, hg.tape.trans hs.tape, hg.output.trans hs.output, Nat.le_trans hs.size hg.size, fun k hk hn => (hg.block k (Nat.lt_of_lt_of_le hk hs.size) (fun e => by have := (hr k e.symm).1; omega)).trans (hs.block k hk hn)⟩
theorem tri_inj {u t : List Int} (hl : u.length = t.length) (h3 : u.length ≤ 3) (e : tri u = tri t) : u = t := by
  refine t3_inj hl h3 ?_
  unfold tri at e
  simp at e
  unfold t3
  simp [List.getD] at *
  simp [e]
def Puts (es es2 : Array MapEntry) (key v0 val z : Value) : Prop := (∃ j, (prs es)[j]? = some (key, v0) ∧ prs es2 = (prs es).set j (key, val)) ∨ ((∀ x ∈ prs es, x.1 ≠ key) ∧ v0 = z ∧ prs es2 = prs es ++ [(key, val)])
/-- What the lookup gives is how often the tuple came so far. -/
theorem puts_val {es es2 : Array MapEntry} {ct : List CntD} {hs : List (List Int)} {n : Nat} {t : List Int} {v0 val : Value} (hp : prs es = ct.map (fun p => (tri p.1, Value.int .i64 p.2))) (hc : CntOf hs ct) (hl : ∀ u ∈ hs, u.length = n) (htl : t.length = n) (hn3 : n ≤ 3)
    (h : Puts es es2 (tri t) v0 val (.int .i64 0)) : v0 = .int .i64 (hs.count t : Int) := by
  have htri : ∀ u ∈ ct.map (·.1), tri u = tri t → u = t := fun u hu e => tri_inj (by rw [hl u ((hc.2.1 u).1 hu), htl]) (by rw [hl u ((hc.2.1 u).1 hu)]; exact hn3) e
  rcases h with ⟨j, h1, _⟩ | ⟨h1, rfl, _⟩
  · rw [hp, List.getElem?_map, Option.map_eq_some_iff] at h1
    obtain ⟨q, hq, e⟩ := h1
    obtain ⟨e1, e2⟩ := Prod.mk.inj e
    have hqm := List.mem_of_getElem? hq
    have e3 := htri q.1 (List.mem_map.2 ⟨q, hqm, rfl⟩) e1
    rw [← e2, hc.2.2 q hqm, e3]
  · have : t ∉ hs := fun hm => by
      obtain ⟨q, hq, e⟩ := List.mem_map.1 ((hc.2.1 t).2 hm)
      exact h1 (tri q.1, .int .i64 q.2) (by rw [hp]; exact List.mem_map.2 ⟨q, hq, rfl⟩) (by rw [e])
    rw [List.count_eq_zero.2 this]; rfl
theorem puts_next {es es2 : Array MapEntry} {ct : List CntD} {hs : List (List Int)} {n : Nat} {t : List Int} {v0 : Value} {c : Int} (hp : prs es = ct.map (fun p => (tri p.1, Value.int .i64 p.2))) (hc : CntOf hs ct) (hl : ∀ u ∈ hs, u.length = n) (htl : t.length = n) (hn3 : n ≤ 3)
    (hv : v0 = .int .i64 c) (h : Puts es es2 (tri t) v0 (.int .i64 (c + 1)) (.int .i64 0)) : ∃ ct', prs es2 = ct'.map (fun p => (tri p.1, Value.int .i64 p.2)) ∧ CntOf (hs ++ [t]) ct' := by
  have htri : ∀ u ∈ ct.map (·.1), tri u = tri t → u = t := fun u hu e => tri_inj (by rw [hl u ((hc.2.1 u).1 hu), htl]) (by rw [hl u ((hc.2.1 u).1 hu)]; exact hn3) e
  subst hv
  rcases h with ⟨j, h1, h2⟩ | ⟨h1, h0, h2⟩
  · rw [hp, List.getElem?_map, Option.map_eq_some_iff] at h1
    obtain ⟨q, hq, e⟩ := h1
    obtain ⟨e1, e2⟩ := Prod.mk.inj e
    have hqm := List.mem_of_getElem? hq
    have e3 := htri q.1 (List.mem_map.2 ⟨q, hqm, rfl⟩) e1
    have e4 : q.2 = c := by simpa using e2
    have hq2 : ct[j]? = some (t, c) := by rw [hq, ← e3, ← e4]
    exact ⟨ct.set j (t, c + 1), by rw [h2, hp, List.map_set], hc.more hq2⟩
  · have hc0 : c = 0 := by simpa using h0
    subst hc0
    have : t ∉ ct.map (·.1) := fun hm => by
      obtain ⟨q, hq, e⟩ := List.mem_map.1 hm
      exact h1 (tri q.1, .int .i64 q.2) (by rw [hp]; exact List.mem_map.2 ⟨q, hq, rfl⟩) (by rw [e])
    exact ⟨ct ++ [(t, 1)], by rw [h2, hp, List.map_append]; rfl, hc.anew this⟩
theorem step_val {P : Program} {ops : Array Oper} {o : Oper} {a : Act} {w w' : World} {K : Act → World → Prop} {Q : Exit → Act → World → Prop} {F : Prop} {v : Value} (hgd : o.guard = none) (he : (execOp a.eval o).run P w = .ok (.value v) w') (hK : K (a.put o.dst v) w') :
    if Region.wanted o (yielded ops a.tmps) = true then Oper.wp P o a w K Q else F := by
  have hw : Region.wanted o (yielded ops a.tmps) = true := by simp [Region.wanted, hgd]
  rw [if_pos hw]; unfold Oper.wp; rw [he]; exact hK
theorem step_skip {P : Program} {ops : Array Oper} {o : Oper} {a : Act} {w w' : World} {K : Act → World → Prop} {Q : Exit → Act → World → Prop} {F : Prop} (hgd : o.guard = none) (he : (execOp a.eval o).run P w = .ok .skip w') (hK : K (a.put o.dst undef) w') :
    if Region.wanted o (yielded ops a.tmps) = true then Oper.wp P o a w K Q else F := by
  have hw : Region.wanted o (yielded ops a.tmps) = true := by simp [Region.wanted, hgd]
  rw [if_pos hw]; unfold Oper.wp; rw [he]; exact hK
theorem step_lookup {P : Program} {ops : Array Oper} {o : Oper} {a : Act} {w w' : World} {K : Act → World → Prop} {Q : Exit → Act → World → Prop} {F : Prop} {v : Value} {T : TypeId} {x ix : Operand} (hgd : o.guard = none) (ho : o.op = .lookup T x ix false) {m k : Value} (hm : a.eval x = m) (hk : a.eval ix = k)
    (hr : (Instr.lookup T m k false).run P w = .ok v w') (hK : K (a.put o.dst v) w') : if Region.wanted o (yielded ops a.tmps) = true then Oper.wp P o a w K Q else F :=
  step_val hgd (by unfold execOp; simp only [ho, hm, hk, Sem.run_bind, hr, Result.andThen_ok, Sem.run_pure]) hK
theorem step_entry {P : Program} {ops : Array Oper} {o : Oper} {a : Act} {w w' : World} {K : Act → World → Prop} {Q : Exit → Act → World → Prop} {F : Prop} {v : Value} {T : TypeId} {x ix : Operand} (hgd : o.guard = none) (ho : o.op = .mapEntry T x ix) {m k : Value} (hm : a.eval x = m) (hk : a.eval ix = k)
    (hr : (Instr.mapEntry T m k).run P w = .ok v w') (hK : K (a.put o.dst v) w') : if Region.wanted o (yielded ops a.tmps) = true then Oper.wp P o a w K Q else F :=
  step_val hgd (by unfold execOp; simp only [ho, hm, hk, Sem.run_bind, hr, Result.andThen_ok, Sem.run_pure]) hK
theorem step_estore {P : Program} {ops : Array Oper} {o : Oper} {a : Act} {w w' : World} {K : Act → World → Prop} {Q : Exit → Act → World → Prop} {F : Prop} {T : TypeId} {x ix y : Operand} (hgd : o.guard = none) (ho : o.op = .entryStore T x ix y) {m k u : Value} (hm : a.eval x = m) (hk : a.eval ix = k) (hu : a.eval y = u)
    (hr : (Instr.entryStore T m k u).run P w = .ok () w') (hK : K (a.put o.dst undef) w') : if Region.wanted o (yielded ops a.tmps) = true then Oper.wp P o a w K Q else F :=
  step_skip hgd (by unfold execOp; simp only [ho, hm, hk, hu, Sem.run_bind, hr, Result.andThen_ok, Sem.run_pure]) hK
theorem step_load_b {ops : Array Oper} {o : Oper} {a : Act} {w : World} {K : Act → World → Prop} {Q : Exit → Act → World → Prop} {F : Prop} (hgd : o.guard = none) {x : Operand} (ho : o.op = .load 122 x) {g : Nat} {b : List Int} (hok : OkB b) (hx : a.eval x = .pointer (some ⟨g, 0, none⟩)) (hg : w.heap[g]? = some (.cells (bA b) 122 (0, 0)))
    (hK : K (a.put o.dst (bV b)) w) : if Region.wanted o (yielded ops a.tmps) = true then Oper.wp Tryz.prog o a w K Q else F :=
  step_val hgd (by unfold execOp; simp only [ho, hx, Instr.loadAt, Instr.sureAddr, Sem.run_bind, Sem.run_pure, Result.andThen_ok, run_loadVar_row w g 122 122 (bA b) (0, 0) _ hg Tryz.underlying122 rfl (by rw [bA_size hok]; exact info_b)]; rfl) hK
theorem setBlock_heap {W : World} {b : Nat} {o o' : Obj} (h : W.heap[b]? = some o) : (setBlock W b o').heap[b]? = some o' := by
  unfold setBlock; simp [(Array.getElem?_eq_some_iff.1 h).1]
theorem setBlock_only (W : World) (b : Nat) (o : Obj) : OnlyAt [b] W (setBlock W b o) :=
  ⟨rfl, rfl, rfl, by simp [setBlock], fun k _ hn => by simp [setBlock, show ¬ b = k from fun e => hn (by simp [e])]⟩
theorem cut5 {F : Fence} {n fuel : Nat} {P : Program} {md : Region.Mode} {ops : Array Oper} {Q : Exit → Act → World → Prop} {listed : Array Bool} {a : Act} {w : World} (T : Act → World → Prop) (hT : ∀ a w, T a w → wpAnyIn F n P md ops Q 5 #[true, true, true, true, true, false, false, false, false, false] a w)
    (h : (∀ a w, T a w → wpAnyIn F n P md ops Q 5 #[true, true, true, true, true, false, false, false, false, false] a w) → wpAnyIn F n P md ops Q fuel listed a w) : wpAnyIn F n P md ops Q fuel listed a w := h hT
theorem minv_keeps {W w7 : World} {M n₀ B : Nat} {es : Array MapEntry} {clock : Nat} (hon : OnlyAt [M] W w7) (hm : W.heap[M]? = some (.map es clock)) (hn : n₀ ≤ M) (hW : n₀ ≤ W.heap.size) (hB : M < B) : KeepsFrom B W w7 ∧ KpB n₀ W w7 :=
  ⟨⟨hon.size, fun k o hk0 hk _ => (hon.block k (Array.getElem?_eq_some_iff.1 hk).1 (fun h => by simp at h; omega)).trans hk⟩,
   ⟨hon.os, hon.tape, hon.output, hon.size, fun k hk => hon.block k (by omega) (fun h => by simp at h; omega)⟩,
   fun k c fr hk => (hon.block k (Array.getElem?_eq_some_iff.1 hk).1 (fun h => by simp at h; subst h; rw [hm] at hk; cases hk)).trans hk⟩
theorem MInv.grow {W W' : World} {M : Nat} {hs : List (List Int)} (h : MInv W M hs) (hb : Below W.heap.size W W') : MInv W' M hs := by
  obtain ⟨es, clock, ct, h1, h2⟩ := h
  exact ⟨es, clock, ct, (hb.block _ (Array.getElem?_eq_some_iff.1 h1).1).trans h1, h2⟩
/-- The head under a binding, for the program. -/
def hdI (d : QueryD) (x : BB) : List Int := d.1.map (valD x.1)

theorem decA {n : Nat} {es : Array MapEntry} {ct : List CntD} (h3 : ∀ p ∈ ct, p.1.length = n ∧ n ≤ 3 ∧ ∀ v ∈ p.1, inI v) (hp : prs es = ct.map (fun p => (tri p.1, Value.int .i64 p.2))) : es.toList.map (decE n) = ct := by
  cases ct with
  | nil =>
    have : es.toList.length = 0 := by have := congrArg List.length hp; simpa [prs] using this
    rw [List.eq_nil_of_length_eq_zero this]; rfl
  | cons p ct => exact decE_all (h3 p (by simp)).2.1 hp (fun q hq => (h3 q hq).1)
theorem ElsO.cells {W : World} {cs : List Value} {l : List CntD} {bss : List (List Nat)} (h : ElsO W cs l bss) : ∀ b ∈ bss.flatten, IsCells W b := by
  intro b hb
  obtain ⟨bs, hbs, hb2⟩ := List.mem_flatten.1 hb
  obtain ⟨j, hj⟩ := List.mem_iff_getElem?.1 hbs
  have hjl : j < l.length := by rw [← h.1]; exact (List.getElem?_eq_some_iff.1 hj).1
  obtain ⟨a, n, c, _, _, e2⟩ := h.2 j l[j] (List.getElem?_eq_getElem hjl)
  have e3 : bss.getD j [] = bs := by simp [List.getD, hj]
  rw [e3] at e2
  rcases e2.2 with ⟨_, _, _, e⟩ | ⟨b', off, n', c', e, hn, rfl, hf⟩
  · rw [e] at hb2; cases hb2
  · cases e
    obtain rfl : b = b' := by simpa using hb2
    rcases e2.1.2 with ⟨a, c, e, hc, _⟩ | ⟨b2, off2, len, c2, e, hl, h1, h2, hlt, hc⟩
    · cases e; omega
    · cases e
      exact IsCells.of_cell (hc 0 (by omega))
/-- The counts in order are the counts that are asked. -/
theorem counts_fin {s : List Int} {d : QueryD} {db : List AtomD} {xs : List BB} {ct l' : List CntD} (hS : xs.map (fun x => x.val) = bindI s d db) (hc : CntOf (xs.map (hdI d)) ct) (hp : l'.Perm ct) (ha : AscL (l'.map (·.1))) : l' = countsN s d db := by
  have hhs : xs.map (hdI d) = (bindI s d db).map (fun b => d.1.map (valD b)) := by rw [← hS, List.map_map]; rfl
  have hv : ∀ b ∈ bindI s d db, d.1.map (valD b) = tupL d.1 b := fun b hb => by
    obtain ⟨i, hi⟩ := List.mem_iff_getElem?.1 hb
    have := bind_fine (List.getElem?_eq_some_iff.1 hi).1
    exact (tup_val (fine_head this.1).1).symm
  have hhs2 : xs.map (hdI d) = (bindI s d db).map (tupL d.1) := hhs.trans (List.map_congr_left hv)
  have hpb : (bindingsN s d db).Perm (bindI s d db) := by
    have := bind_sorted s d db (sortL (bindI s d db) false) (sortL_asc _ _) (sortL_perm _)
    rw [← this]; exact sortL_perm _
  have hperm : ((bindingsN s d db).map (tupL d.1)).Perm (xs.map (hdI d)) := by rw [hhs2]; exact hpb.map _
  have h1 : l'.map (·.1) = answersN s d db := by
    unfold answersN
    refine sortL_eq (ha.strict ?_) (fun y => ?_)
    · exact (hp.map _).nodup_iff.2 hc.1
    · rw [(hp.map (·.1)).mem_iff, hc.2.1 y, hperm.mem_iff]
  rw [counts_eq, ← h1, List.map_map]
  conv => lhs; rw [← List.map_id l']
  refine List.map_congr_left (fun p hm => ?_)
  show p = (p.1, _)
  have := hc.2.2 p (hp.mem_iff.1 hm)
  rw [hperm.count_eq, ← this]

end Go.Proofs.YtnbljidjbknleaaGreat

/-! I6ans -/
namespace Go.Proofs.YtnbljidjbknleaaGreat
open Go Go.Sort Go.RowKit
set_option linter.unusedVariables false

theorem cntParts {w w5 : World} {a : Option Addr} {n c : Nat} {l : List CntD} {bs : List Nat} (h : ROCountedS w5 (.slice a n c) l bs) (hf : Fresh w w5 bs) :
    l.length = n ∧ c ≤ maxLen ∧ ∃ (TS : List Value) (bss : List (List Nat)), TS.length = n ∧ bss.length = n ∧ bss.flatten.Nodup ∧ (∀ b ∈ bss.flatten, w.heap.size ≤ b ∧ b < w5.heap.size) ∧
      ∀ j, j < n → ∃ b off ea em ec, a = some ⟨b, off, none⟩ ∧ w5.cell? ⟨b, off + j * 2, none⟩ = some (.slice ea em ec) ∧ w5.cell? ⟨b, off + j * 2 + 1, none⟩ = some (.int .i64 (l.getD j zC).2) ∧ TS[j]? = some (.slice ea em ec) ∧ OInts w5 (.slice ea em ec) (l.getD j zC).1 (bss.getD j []) := by
  obtain ⟨a', n', c', e, h⟩ := h
  cases e
  rcases h with ⟨a', c', e, hc, rfl, rfl⟩ | ⟨b, off, n', cap, bss, e, h2, h3, h4, h5, rfl, h6⟩
  · cases e
    exact ⟨rfl, hc, [], [], rfl, rfl, List.Pairwise.nil, fun b hb => (by cases hb), fun j hj => by omega⟩
  · cases e
    have hnd := hf.1
    refine ⟨h2, h5, (List.range n).map (fun j => (w5.cell? ⟨b, off + j * 2, none⟩).getD undef), bss, by simp, by rw [h6.1, h2], (List.nodup_cons.1 hnd).2, fun x hx => hf.2 x (by simp [hx]), fun j hj => ?_⟩
    have hjl : j < l.length := by omega
    obtain ⟨cs, k1, k2, ea, em, ec, rfl, hi, ho⟩ := h6.2.2.2 j l[j] (List.getElem?_eq_getElem hjl)
    have q0 : w5.cell? ⟨b, off + j * 2, none⟩ = some (.slice ea em ec) := by have := k2 0 (by omega); simpa using this
    have q1 : w5.cell? ⟨b, off + j * 2 + 1, none⟩ = some (.int .i64 l[j].2) := by have := k2 1 (by omega); rw [← Nat.add_assoc] at this; simpa using this
    have e2 : l.getD j zC = l[j] := by simp [List.getD, List.getElem?_eq_getElem hjl]
    rw [e2]
    refine ⟨b, off, ea, em, ec, rfl, q0, q1, ?_, ho⟩
    rw [List.getElem?_map, List.getElem?_range hj]
    simp [q0]

end Go.Proofs.YtnbljidjbknleaaGreat

/-! I6cms -/
namespace Go.Proofs.YtnbljidjbknleaaGreat
open Go Go.Sort Go.RowKit
set_option linter.unusedVariables false
theorem answers_3 (s : List Int) (d : QueryD) (db : List AtomD) : ∀ t ∈ answersN s d db, t.length ≤ 3 := by
  intro t ht
  unfold answersN at ht
  obtain ⟨b, hb, rfl⟩ := List.mem_map.1 (((sortL_once _).2 t).1 ht)
  obtain ⟨i, hi⟩ := List.mem_iff_getElem?.1 ((bindings_mem s d db b).1 hb)
  have := (fine_head (bind_fine (List.getElem?_eq_some_iff.1 hi).1).1).2
  unfold tupL
  simpa using this
theorem answers_len (s : List Int) (d : QueryD) (db : List AtomD) : (answersN s d db).length ≤ 331776 := by
  have h1 := List.Nodup.length_le_of_subset (sortL_once ((bindingsN s d db).map (tupL d.1))).1.nodup (fun y hy => ((sortL_once _).2 y).1 hy)
  rw [List.length_map] at h1
  have h2 := bindings_len s d db
  unfold answersN
  omega
theorem answers_m (s : List Int) (d : QueryD) (db : List AtomD) : mIntSS (answersN s d db) ≤ 1048576 := by
  unfold mIntSS
  have h1 := sumL_most (answers_3 s d db)
  have h2 := answers_len s d db
  omega
theorem mCountedS_most {l : List CntD} {n : Nat} (h : ∀ d ∈ l, d.1.length ≤ n) : mCountedS l ≤ l.length * (n + 1) := by
  induction l with
  | nil => simp [mCountedS]
  | cons d l ih =>
    have h1 := ih (fun x hx => h x (List.mem_cons_of_mem _ hx))
    have h2 := h d (List.mem_cons_self ..)
    simp only [mCountedS, List.length_cons, Nat.add_mul, Nat.one_mul]
    omega
theorem counts_3 (s : List Int) (d : QueryD) (db : List AtomD) : ∀ x ∈ countsN s d db, x.1.length ≤ 3 := by
  intro x hx
  refine answers_3 s d db x.1 ?_
  rw [← answers_of]
  exact List.mem_map.2 ⟨x, hx, rfl⟩
theorem counts_len (s : List Int) (d : QueryD) (db : List AtomD) : (countsN s d db).length ≤ 331776 := by
  have := answers_len s d db
  rw [← answers_of, List.length_map] at this
  exact this
theorem counts_m (s : List Int) (d : QueryD) (db : List AtomD) : mCountedS (countsN s d db) ≤ 16777216 ∧ ∀ x ∈ countsN s d db, x.1.length ≤ 1048576 := by
  refine ⟨?_, fun x hx => Nat.le_trans (counts_3 s d db x hx) (by decide)⟩
  have h1 := mCountedS_most (counts_3 s d db)
  have h2 := counts_len s d db
  omega
end Go.Proofs.YtnbljidjbknleaaGreat
