/- Merged of I6cans, I6ans, I6cms. -/
import Derived.Test.YtfojllkkbdpfkaaGreatI6mkr
import Derived.Test.YtfojllkkbdpfkaaGreatI6cw
import Derived.Test.YtfojllkkbdpfkaaGreatI6cs
/-! I6cans -/
namespace Go.Proofs.YtfojllkkbdpfkaaGreat
open Go Go.Sort Go.RowKit Go.Shelf
open Go.ChangeMaps (setBlock)
set_option linter.unusedVariables false
attribute [local go_sem] Oper.semAt_some

/-- The counts of what came so far. -/
def CntOf (hs : List (List Int)) (ct : List CntD) : Prop := (ct.map (·.1)).Nodup ∧ (∀ t, t ∈ ct.map (·.1) ↔ t ∈ hs) ∧ ∀ p ∈ ct, p.2 = (hs.count p.1 : Int)
theorem CntOf.nil : CntOf [] [] := ⟨List.Pairwise.nil, fun t => by simp, fun p hp => by cases hp⟩
theorem CntOf.anew {hs : List (List Int)} {ct : List CntD} (h : CntOf hs ct) {t : List Int} (ht : t ∉ ct.map (·.1)) : CntOf (hs ++ [t]) (ct ++ [(t, 1)]) := by
  obtain ⟨h1, h2, h3⟩ := h
  have hth : t ∉ hs := fun hh => ht ((h2 t).2 hh)
  refine ⟨?_, fun u => ?_, fun p hp => ?_⟩
  · rw [List.map_append, List.nodup_append]
    exact ⟨h1, by simp, fun x hx y hy e => by simp at hy; subst hy; subst e; exact ht hx⟩
  · rw [List.map_append, List.mem_append, List.mem_append, h2 u]; simp
  · rw [List.count_append]
    rcases List.mem_append.1 hp with h | h
    · have hne : p.1 ≠ t := fun e => ht (by rw [← e]; exact List.mem_map.2 ⟨p, h, rfl⟩)
      have : ([t] : List (List Int)).count p.1 = 0 := by rw [List.count_eq_zero]; simp [hne]
      rw [h3 p h, this]; simp
    · rw [List.mem_singleton.1 h]
      have : hs.count t = 0 := List.count_eq_zero.2 hth
      simp [this]
theorem CntOf.more {hs : List (List Int)} {ct : List CntD} (h : CntOf hs ct) {t : List Int} {c : Int} {j : Nat} (hj : ct[j]? = some (t, c)) : CntOf (hs ++ [t]) (ct.set j (t, c + 1)) := by
  obtain ⟨h1, h2, h3⟩ := h
  have hjl := (List.getElem?_eq_some_iff.1 hj).1
  have hje := (List.getElem?_eq_some_iff.1 hj).2
  have hmap : (ct.set j (t, c + 1)).map (·.1) = ct.map (·.1) := by
    rw [List.map_set]
    refine List.ext_getElem (by simp) (fun i a b => ?_)
    rw [List.getElem_set]
    split
    · rename_i e; subst e; rw [List.getElem_map, hje]
    · rfl
  have hm : (t, c) ∈ ct := List.mem_of_getElem? hj
  have htm : t ∈ ct.map (·.1) := List.mem_map.2 ⟨_, hm, rfl⟩
  refine ⟨by rw [hmap]; exact h1, fun u => ?_, fun p hp => ?_⟩
  · rw [hmap, h2 u, List.mem_append]
    constructor
    · exact .inl
    · rintro (h | h)
      · exact h
      · rw [List.mem_singleton.1 h]; exact (h2 t).1 htm
  · obtain ⟨i, hi⟩ := List.mem_iff_getElem?.1 hp
    rw [List.count_append]
    by_cases e : j = i
    · subst e
      rw [List.getElem?_set_self hjl] at hi
      cases hi
      have := h3 _ hm
      simp only at this
      simp [this]
    · rw [List.getElem?_set_ne e] at hi
      have hpm := List.mem_of_getElem? hi
      have hne : p.1 ≠ t := fun e2 => by
        obtain ⟨a1, b1⟩ := List.getElem?_eq_some_iff.1 hi
        have := (List.getElem_inj (h₀ := by simpa using hjl) (h₁ := by simpa using a1) (xs := ct.map (·.1)) (i := j) (j := i) h1).1 (by rw [List.getElem_map, List.getElem_map, hje, b1, e2])
        exact e this
      have : ([t] : List (List Int)).count p.1 = 0 := by rw [List.count_eq_zero]; simp [hne]
      rw [h3 p hpm, this]; simp
/-- The map of counts, in block M. -/
def MInv (W : World) (M : Nat) (hs : List (List Int)) : Prop := ∃ es clock ct, W.heap[M]? = some (.map es clock) ∧ Keyed Tryz.prog 100 es clock ∧ prs es = ct.map (fun p => (tri p.1, Value.int .i64 p.2)) ∧ CntOf hs ct
theorem MInv.own {β : Type} (f : β → List (List Int)) {M B : Nat} (hM : M < B) : OwnFrom B (fun (s : β) W => MInv W M (f s)) := by
  intro s A A' row ⟨es, clock, ct, h1, h2⟩ hg hr
  exact ⟨es, clock, ct, (hg.block M (Array.getElem?_eq_some_iff.1 h1).1 (fun e => by have := (hr M e.symm).1; omega)).trans h1, h2⟩
theorem own_onlyAt {β : Type} {B : Nat} {bs : List Nat} {w0 : World} (hB : w0.heap.size ≤ B) : OwnFrom B (fun (_ : β) W => OnlyAt bs w0 W) := fun s A A' row hs hg hr =>
  ⟨hg.os.trans hs.os, hg.tape.trans hs.tape, hg.output.trans hs.output, Nat.le_trans hs.size hg.size, fun k hk hn => (hg.block k (Nat.lt_of_lt_of_le hk hs.size) (fun e => by have := (hr k e.symm).1; omega)).trans (hs.block k hk hn)⟩
theorem tri_inj {u t : List Int} (hl : u.length = t.length) (h3 : u.length ≤ 3) (e : tri u = tri t) : u = t := by
  refine t3_inj hl h3 ?_
  unfold tri at e
  simp at e
  unfold t3
  simp [List.getD] at *
  simp [e]
def Puts (es es2 : Array MapEntry) (key v0 val z : Value) : Prop := (∃ j, (prs es)[j]? = some (key, v0) ∧ prs es2 = (prs es).set j (key, val)) ∨ ((∀ x ∈ prs es, x.1 ≠ key) ∧ v0 = z ∧ prs es2 = prs es ++ [(key, val)])
/-- What the lookup gives is how often the tuple came so far. -/
theorem puts_val {es es2 : Array MapEntry} {ct : List CntD} {hs : List (List Int)} {n : Nat} {t : List Int} {v0 val : Value} (hp : prs es = ct.map (fun p => (tri p.1, Value.int .i64 p.2))) (hc : CntOf hs ct) (hl : ∀ u ∈ hs, u.length = n) (htl : t.length = n) (hn3 : n ≤ 3)
    (h : Puts es es2 (tri t) v0 val (.int .i64 0)) : v0 = .int .i64 (hs.count t : Int) := by
  have htri : ∀ u ∈ ct.map (·.1), tri u = tri t → u = t := fun u hu e => tri_inj (by rw [hl u ((hc.2.1 u).1 hu), htl]) (by rw [hl u ((hc.2.1 u).1 hu)]; exact hn3) e
  rcases h with ⟨j, h1, _⟩ | ⟨h1, rfl, _⟩
  · rw [hp, List.getElem?_map, Option.map_eq_some_iff] at h1
    obtain ⟨q, hq, e⟩ := h1
    obtain ⟨e1, e2⟩ := Prod.mk.inj e
    have hqm := List.mem_of_getElem? hq
    have e3 := htri q.1 (List.mem_map.2 ⟨q, hqm, rfl⟩) e1
    rw [← e2, hc.2.2 q hqm, e3]
  · have : t ∉ hs := fun hm => by
      obtain ⟨q, hq, e⟩ := List.mem_map.1 ((hc.2.1 t).2 hm)
      exact h1 (tri q.1, .int .i64 q.2) (by rw [hp]; exact List.mem_map.2 ⟨q, hq, rfl⟩) (by rw [e])
    rw [List.count_eq_zero.2 this]; rfl
theorem puts_next {es es2 : Array MapEntry} {ct : List CntD} {hs : List (List Int)} {n : Nat} {t : List Int} {v0 : Value} {c : Int} (hp : prs es = ct.map (fun p => (tri p.1, Value.int .i64 p.2))) (hc : CntOf hs ct) (hl : ∀ u ∈ hs, u.length = n) (htl : t.length = n) (hn3 : n ≤ 3)
    (hv : v0 = .int .i64 c) (h : Puts es es2 (tri t) v0 (.int .i64 (c + 1)) (.int .i64 0)) : ∃ ct', prs es2 = ct'.map (fun p => (tri p.1, Value.int .i64 p.2)) ∧ CntOf (hs ++ [t]) ct' := by
  have htri : ∀ u ∈ ct.map (·.1), tri u = tri t → u = t := fun u hu e => tri_inj (by rw [hl u ((hc.2.1 u).1 hu), htl]) (by rw [hl u ((hc.2.1 u).1 hu)]; exact hn3) e
  subst hv
  rcases h with ⟨j, h1, h2⟩ | ⟨h1, h0, h2⟩
  · rw [hp, List.getElem?_map, Option.map_eq_some_iff] at h1
    obtain ⟨q, hq, e⟩ := h1
    obtain ⟨e1, e2⟩ := Prod.mk.inj e
    have hqm := List.mem_of_getElem? hq
    have e3 := htri q.1 (List.mem_map.2 ⟨q, hqm, rfl⟩) e1
    have e4 : q.2 = c := by simpa using e2
    have hq2 : ct[j]? = some (t, c) := by rw [hq, ← e3, ← e4]
    exact ⟨ct.set j (t, c + 1), by rw [h2, hp, List.map_set], hc.more hq2⟩
  · have hc0 : c = 0 := by simpa using h0
    subst hc0
    have : t ∉ ct.map (·.1) := fun hm => by
      obtain ⟨q, hq, e⟩ := List.mem_map.1 hm
      exact h1 (tri q.1, .int .i64 q.2) (by rw [hp]; exact List.mem_map.2 ⟨q, hq, rfl⟩) (by rw [e])
    exact ⟨ct ++ [(t, 1)], by rw [h2, hp, List.map_append]; rfl, hc.anew this⟩
theorem step_val {P : Program} {ops : Array Oper} {o : Oper} {a : Act} {w w' : World} {K : Act → World → Prop} {Q : Exit → Act → World → Prop} {F : Prop} {v : Value} (hgd : o.guard = none) (he : (execOp a.eval o).run P w = .ok (.value v) w') (hK : K (a.put o.dst v) w') :
    if Region.wanted o (yielded ops a.tmps) = true then Oper.wp P o a w K Q else F := by
  have hw : Region.wanted o (yielded ops a.tmps) = true := by simp [Region.wanted, hgd]
  rw [if_pos hw]; unfold Oper.wp; rw [he]; exact hK
theorem step_skip {P : Program} {ops : Array Oper} {o : Oper} {a : Act} {w w' : World} {K : Act → World → Prop} {Q : Exit → Act → World → Prop} {F : Prop} (hgd : o.guard = none) (he : (execOp a.eval o).run P w = .ok .skip w') (hK : K (a.put o.dst undef) w') :
    if Region.wanted o (yielded ops a.tmps) = true then Oper.wp P o a w K Q else F := by
  have hw : Region.wanted o (yielded ops a.tmps) = true := by simp [Region.wanted, hgd]
  rw [if_pos hw]; unfold Oper.wp; rw [he]; exact hK
theorem step_lookup {P : Program} {ops : Array Oper} {o : Oper} {a : Act} {w w' : World} {K : Act → World → Prop} {Q : Exit → Act → World → Prop} {F : Prop} {v : Value} {T : TypeId} {x ix : Operand} (hgd : o.guard = none) (ho : o.op = .lookup T x ix false) {m k : Value} (hm : a.eval x = m) (hk : a.eval ix = k)
    (hr : (Instr.lookup T m k false).run P w = .ok v w') (hK : K (a.put o.dst v) w') : if Region.wanted o (yielded ops a.tmps) = true then Oper.wp P o a w K Q else F :=
  step_val hgd (by unfold execOp; simp only [ho, hm, hk, Sem.run_bind, hr, Result.andThen_ok, Sem.run_pure]) hK
theorem step_entry {P : Program} {ops : Array Oper} {o : Oper} {a : Act} {w w' : World} {K : Act → World → Prop} {Q : Exit → Act → World → Prop} {F : Prop} {v : Value} {T : TypeId} {x ix : Operand} (hgd : o.guard = none) (ho : o.op = .mapEntry T x ix) {m k : Value} (hm : a.eval x = m) (hk : a.eval ix = k)
    (hr : (Instr.mapEntry T m k).run P w = .ok v w') (hK : K (a.put o.dst v) w') : if Region.wanted o (yielded ops a.tmps) = true then Oper.wp P o a w K Q else F :=
  step_val hgd (by unfold execOp; simp only [ho, hm, hk, Sem.run_bind, hr, Result.andThen_ok, Sem.run_pure]) hK
theorem step_estore {P : Program} {ops : Array Oper} {o : Oper} {a : Act} {w w' : World} {K : Act → World → Prop} {Q : Exit → Act → World → Prop} {F : Prop} {T : TypeId} {x ix y : Operand} (hgd : o.guard = none) (ho : o.op = .entryStore T x ix y) {m k u : Value} (hm : a.eval x = m) (hk : a.eval ix = k) (hu : a.eval y = u)
    (hr : (Instr.entryStore T m k u).run P w = .ok () w') (hK : K (a.put o.dst undef) w') : if Region.wanted o (yielded ops a.tmps) = true then Oper.wp P o a w K Q else F :=
  step_skip hgd (by unfold execOp; simp only [ho, hm, hk, hu, Sem.run_bind, hr, Result.andThen_ok, Sem.run_pure]) hK
theorem step_load_b {ops : Array Oper} {o : Oper} {a : Act} {w : World} {K : Act → World → Prop} {Q : Exit → Act → World → Prop} {F : Prop} (hgd : o.guard = none) {x : Operand} (ho : o.op = .load 89 x) {g : Nat} {b : List Int} (hok : OkB b) (hx : a.eval x = .pointer (some ⟨g, 0, none⟩)) (hg : w.heap[g]? = some (.cells (bA b) 89 (0, 0)))
    (hK : K (a.put o.dst (bV b)) w) : if Region.wanted o (yielded ops a.tmps) = true then Oper.wp Tryz.prog o a w K Q else F :=
  step_val hgd (by unfold execOp; simp only [ho, hx, Instr.loadAt, Instr.sureAddr, Sem.run_bind, Sem.run_pure, Result.andThen_ok, run_loadVar_row w g 89 89 (bA b) (0, 0) _ hg Tryz.underlying89 rfl (by rw [bA_size hok]; exact info_b)]; rfl) hK
theorem setBlock_heap {W : World} {b : Nat} {o o' : Obj} (h : W.heap[b]? = some o) : (setBlock W b o').heap[b]? = some o' := by
  unfold setBlock; simp [(Array.getElem?_eq_some_iff.1 h).1]
theorem setBlock_only (W : World) (b : Nat) (o : Obj) : OnlyAt [b] W (setBlock W b o) :=
  ⟨rfl, rfl, rfl, by simp [setBlock], fun k _ hn => by simp [setBlock, show ¬ b = k from fun e => hn (by simp [e])]⟩
theorem cut5 {F : Fence} {n fuel : Nat} {P : Program} {md : Region.Mode} {ops : Array Oper} {Q : Exit → Act → World → Prop} {listed : Array Bool} {a : Act} {w : World} (T : Act → World → Prop) (hT : ∀ a w, T a w → wpAnyIn F n P md ops Q 5 #[true, true, true, true, true, false, false, false, false, false] a w)
    (h : (∀ a w, T a w → wpAnyIn F n P md ops Q 5 #[true, true, true, true, true, false, false, false, false, false] a w) → wpAnyIn F n P md ops Q fuel listed a w) : wpAnyIn F n P md ops Q fuel listed a w := h hT
theorem minv_keeps {W w7 : World} {M n₀ B : Nat} {es : Array MapEntry} {clock : Nat} (hon : OnlyAt [M] W w7) (hm : W.heap[M]? = some (.map es clock)) (hn : n₀ ≤ M) (hW : n₀ ≤ W.heap.size) (hB : M < B) : KeepsFrom B W w7 ∧ KpB n₀ W w7 :=
  ⟨⟨hon.size, fun k o hk0 hk _ => (hon.block k (Array.getElem?_eq_some_iff.1 hk).1 (fun h => by simp at h; omega)).trans hk⟩,
   ⟨hon.os, hon.tape, hon.output, hon.size, fun k hk => hon.block k (by omega) (fun h => by simp at h; omega)⟩,
   fun k c fr hk => (hon.block k (Array.getElem?_eq_some_iff.1 hk).1 (fun h => by simp at h; subst h; rw [hm] at hk; cases hk)).trans hk⟩
theorem MInv.grow {W W' : World} {M : Nat} {hs : List (List Int)} (h : MInv W M hs) (hb : Below W.heap.size W W') : MInv W' M hs := by
  obtain ⟨es, clock, ct, h1, h2⟩ := h
  exact ⟨es, clock, ct, (hb.block _ (Array.getElem?_eq_some_iff.1 h1).1).trans h1, h2⟩
/-- The head under a binding, for the program. -/
def hdI (d : QueryD) (x : BB) : List Int := d.1.map (valD x.1)

theorem decA {n : Nat} {es : Array MapEntry} {ct : List CntD} (h3 : ∀ p ∈ ct, p.1.length = n ∧ n ≤ 3 ∧ ∀ v ∈ p.1, inI v) (hp : prs es = ct.map (fun p => (tri p.1, Value.int .i64 p.2))) : es.toList.map (decE n) = ct := by
  cases ct with
  | nil =>
    have : es.toList.length = 0 := by have := congrArg List.length hp; simpa [prs] using this
    rw [List.eq_nil_of_length_eq_zero this]; rfl
  | cons p ct => exact decE_all (h3 p (by simp)).2.1 hp (fun q hq => (h3 q hq).1)
theorem ElsO.cells {W : World} {cs : List Value} {l : List CntD} {bss : List (List Nat)} (h : ElsO W cs l bss) : ∀ b ∈ bss.flatten, IsCells W b := by
  intro b hb
  obtain ⟨bs, hbs, hb2⟩ := List.mem_flatten.1 hb
  obtain ⟨j, hj⟩ := List.mem_iff_getElem?.1 hbs
  have hjl : j < l.length := by rw [← h.1]; exact (List.getElem?_eq_some_iff.1 hj).1
  obtain ⟨a, n, c, _, _, e2⟩ := h.2 j l[j] (List.getElem?_eq_getElem hjl)
  have e3 : bss.getD j [] = bs := by simp [List.getD, hj]
  rw [e3] at e2
  rcases e2.2 with ⟨_, _, _, e⟩ | ⟨b', off, n', c', e, hn, rfl, hf⟩
  · rw [e] at hb2; cases hb2
  · cases e
    obtain rfl : b = b' := by simpa using hb2
    rcases e2.1.2 with ⟨a, c, e, hc, _⟩ | ⟨b2, off2, len, c2, e, hl, h1, h2, hlt, hc⟩
    · cases e; omega
    · cases e
      exact IsCells.of_cell (hc 0 (by omega))
/-- The counts in order are the counts that are asked. -/
theorem counts_fin {s : List Int} {d : QueryD} {db : List AtomD} {xs : List BB} {ct l' : List CntD} (hS : xs.map (fun x => x.val) = bindI s d db) (hc : CntOf (xs.map (hdI d)) ct) (hp : l'.Perm ct) (ha : AscL (l'.map (·.1))) : l' = countsN s d db := by
  have hhs : xs.map (hdI d) = (bindI s d db).map (fun b => d.1.map (valD b)) := by rw [← hS, List.map_map]; rfl
  have hv : ∀ b ∈ bindI s d db, d.1.map (valD b) = tupL d.1 b := fun b hb => by
    obtain ⟨i, hi⟩ := List.mem_iff_getElem?.1 hb
    have := bind_fine (List.getElem?_eq_some_iff.1 hi).1
    exact (tup_val (fine_head this.1).1).symm
  have hhs2 : xs.map (hdI d) = (bindI s d db).map (tupL d.1) := hhs.trans (List.map_congr_left hv)
  have hpb : (bindingsN s d db).Perm (bindI s d db) := by
    have := bind_sorted s d db (sortL (bindI s d db) false) (sortL_asc _ _) (sortL_perm _)
    rw [← this]; exact sortL_perm _
  have hperm : ((bindingsN s d db).map (tupL d.1)).Perm (xs.map (hdI d)) := by rw [hhs2]; exact hpb.map _
  have h1 : l'.map (·.1) = answersN s d db := by
    unfold answersN
    refine sortL_eq (ha.strict ?_) (fun y => ?_)
    · exact (hp.map _).nodup_iff.2 hc.1
    · rw [(hp.map (·.1)).mem_iff, hc.2.1 y, hperm.mem_iff]
  rw [counts_eq, ← h1, List.map_map]
  conv => lhs; rw [← List.map_id l']
  refine List.map_congr_left (fun p hm => ?_)
  show p = (p.1, _)
  have := hc.2.2 p (hp.mem_iff.1 hm)
  rw [hperm.count_eq, ← this]

set_option maxRecDepth 100000 in
set_option maxHeartbeats 8000000 in
theorem iCountAnswers_any (w : World) (vs vq vdb : Value) (s : List Int) (d : QueryD) (db : List AtomD) (hs : RdSchema w vs s) (hq : RdQuery w vq d) (hdb : RdAtomS w vdb db) (hz1 : sizeAtomS d.2 ≤ 1048576) (hz2 : sizeAtomS db ≤ 1048576) (hlen : (bindI s d db).length ≤ 331776) :
    Calls Tryz.prog 29 #[vs, vq, vdb] w (fun e w' => ∃ r0 bs0, e = .returned r0 ∧ ROCountedS w' r0 (countsN s d db) bs0 ∧ Fresh w w' bs0 ∧ Below w.heap.size w w') := by
  have HST := Lib.hid (fun W hbW B1 B2 B3 g1 g2 g3 n => eachStops w W vs vq vdb s d db hs hq hdb hz1 hz2 hbW B1 B2 B3 g1 g2 g3 n)
  have HTUP := Lib.hid (fun W b vh hb hh h3 => iTuple_any W b d.1 vh hb hh h3)
  obtain ⟨sa, sn, sc, rfl, hs⟩ := hs
  obtain ⟨a1, n1, c1, a2, n2, c2, rfl, hq1, hq2⟩ := hq
  obtain ⟨da, dn, dc, rfl, hd5⟩ := hdb
  have HE := Lib.hid (fun W => iEach_any W sa sn sc a1 n1 c1 a2 n2 c2 da dn dc)
  have HLE := Lib.hid hlen
  have HQ1 := Lib.hid hq1
  clear hs hq1 hq2 hd5 hz1 hz2 hlen
  refine (callsIn_wide (n := 6)).1 ?_
  refine callsIn_of_wp_marks Tryz.func29 rfl trivial ?_ rfl
  simp only [Tryz.ntmps29, List.size_toArray, List.length_cons, List.length_nil, Nat.reduceAdd, Nat.reduceSub, Array.replicate_succ, Array.replicate_zero, List.push_toArray, List.append_toArray, List.nil_append, List.cons_append]
  gi_wp2_with (fail)
  rename_i hKm
  refine hKm _ _ ?_
  clear hKm
  change wpListIn _ _ _ _ _ _ _ (World.alloc (World.alloc (World.alloc w (.cells #[.slice sa sn sc] 34)) (.cells #[.slice a1 n1 c1, .slice a2 n2 c2] 38)) (.map #[] 0))
  gi_wp2_with (fail)
  refine ⟨trivial, ?_⟩
  refine (callsIn_wide.2 (HE.out _)).mono ?_
  rintro e w4 ⟨rfl, hw4⟩
  gi_wp2_with (fail)
  rw [← hw4]
  have hb3 : Below w.heap.size w ((((w.alloc (.cells #[.slice sa sn sc] 34)).alloc (.cells #[.slice a1 n1 c1, .slice a2 n2 c2] 38)).alloc (.map #[] 0)).alloc (.cells #[.map (some (w.heap.size + 1 + 1))] 99)) := (((below_alloc w _).trans ((below_alloc _ _).mono (by simp))).trans ((below_alloc _ _).mono (by simp; try omega))).trans ((below_alloc _ _).mono (by simp; try omega))
  have hm3 : ((((w.alloc (.cells #[.slice sa sn sc] 34)).alloc (.cells #[.slice a1 n1 c1, .slice a2 n2 c2] 38)).alloc (.map #[] 0)).alloc (.cells #[.map (some (w.heap.size + 1 + 1))] 99)).heap[w.heap.size + 1 + 1]? = some (.map #[] 0) := (Below.heap_alloc _ _ _ (by simp)).trans (by
    have := heap_alloc_new ((w.alloc (.cells #[.slice sa sn sc] 34)).alloc (.cells #[.slice a1 n1 c1, .slice a2 n2 c2] 38)) (.map #[] 0); simpa using this)
  have hq3 : ((((w.alloc (.cells #[.slice sa sn sc] 34)).alloc (.cells #[.slice a1 n1 c1, .slice a2 n2 c2] 38)).alloc (.map #[] 0)).alloc (.cells #[.map (some (w.heap.size + 1 + 1))] 99)).heap[w.heap.size + 1 + 1 + 1]? = some (.cells #[.map (some (w.heap.size + 1 + 1))] 99 (0, 0)) := by
    have := heap_alloc_new (((w.alloc (.cells #[.slice sa sn sc] 34)).alloc (.cells #[.slice a1 n1 c1, .slice a2 n2 c2] 38)).alloc (.map #[] 0)) (.cells #[.map (some (w.heap.size + 1 + 1))] 99); simpa using this
  have hq1 : ((((w.alloc (.cells #[.slice sa sn sc] 34)).alloc (.cells #[.slice a1 n1 c1, .slice a2 n2 c2] 38)).alloc (.map #[] 0)).alloc (.cells #[.map (some (w.heap.size + 1 + 1))] 99)).heap[w.heap.size + 1]? = some (.cells #[.slice a1 n1 c1, .slice a2 n2 c2] 38 (0, 0)) := (Below.heap_alloc _ _ _ (by simp; try omega)).trans ((Below.heap_alloc _ _ _ (by simp)).trans (by
    have := heap_alloc_new (w.alloc (.cells #[.slice sa sn sc] 34)) (.cells #[.slice a1 n1 c1, .slice a2 n2 c2] 38); simpa using this))
  have hs3 : ((((w.alloc (.cells #[.slice sa sn sc] 34)).alloc (.cells #[.slice a1 n1 c1, .slice a2 n2 c2] 38)).alloc (.map #[] 0)).alloc (.cells #[.map (some (w.heap.size + 1 + 1))] 99)).heap.size = w.heap.size + 1 + 1 + 1 + 1 := by simp
  generalize ((((w.alloc (.cells #[.slice sa sn sc] 34)).alloc (.cells #[.slice a1 n1 c1, .slice a2 n2 c2] 38)).alloc (.map #[] 0)).alloc (.cells #[.map (some (w.heap.size + 1 + 1))] 99)) = w2 at *
  have h24 : Below w2.heap.size w2 w4 := by rw [hw4]; exact ((below_alloc w2 _).trans ((below_alloc _ _).mono (by simp))).trans ((below_alloc _ _).mono (by simp; omega))
  have e1 : w4.heap[w.heap.size + 1 + 1 + 1 + 1]? = some (.cells #[.slice sa sn sc] 34 (0, 0)) := by
    rw [hw4, ← hs3]; exact (Below.heap_alloc _ _ _ (by simp; omega)).trans ((Below.heap_alloc _ _ _ (by simp)).trans (heap_alloc_new w2 _))
  have e2 : w4.heap[w.heap.size + 1 + 1 + 1 + 1 + 1]? = some (.cells #[.slice a1 n1 c1, .slice a2 n2 c2] 38 (0, 0)) := by
    rw [hw4, ← hs3]; refine (Below.heap_alloc _ _ _ (by simp)).trans ?_
    have := heap_alloc_new (w2.alloc (.cells #[.slice sa sn sc] 34)) (.cells #[.slice a1 n1 c1, .slice a2 n2 c2] 38); simpa using this
  have e3 : w4.heap[w.heap.size + 1 + 1 + 1 + 1 + 1 + 1]? = some (.cells #[.slice da dn dc] 40 (0, 0)) := by
    rw [hw4, ← hs3]
    have := heap_alloc_new ((w2.alloc (.cells #[.slice sa sn sc] 34)).alloc (.cells #[.slice a1 n1 c1, .slice a2 n2 c2] 38)) (.cells #[.slice da dn dc] 40); simpa using this
  have hB4 : Below w.heap.size w w4 := bnext hb3 h24
  have m4 := (h24.block _ (Array.getElem?_eq_some_iff.1 hm3).1).trans hm3
  have q4 := (h24.block _ (Array.getElem?_eq_some_iff.1 hq3).1).trans hq3
  have q1 := (h24.block _ (Array.getElem?_eq_some_iff.1 hq1).1).trans hq1
  have hM4 := (Array.getElem?_eq_some_iff.1 m4).1
  clear hw4 hb3 hq3 hq1 hm3 hs3 h24
  refine wpIn_rangeFunc_ownH rfl (by omega) (gf := 107) (lb := #[.pointer (some ⟨w.heap.size + 1 + 1 + 1 + 1, 0, none⟩), .pointer (some ⟨w.heap.size + 1 + 1 + 1 + 1 + 1, 0, none⟩), .pointer (some ⟨w.heap.size + 1 + 1 + 1 + 1 + 1 + 1, 0, none⟩)]) rfl trivial (enters_of Tryz.func107 (by kernel_rfl) rfl)
    (HST.out w4 hB4 _ _ _ e1 e2 e3 5) KpB.trans (kpB_b hB4.size) (Below.refl _ _) (fun _ => rfl)
    (fun pre W => MInv W (w.heap.size + 1 + 1) (pre.map (hdI d)) ∧ OnlyAt [w.heap.size + 1 + 1] w4 W)
    (fun c pre W => False)
    (OwnFrom.and (MInv.own _ hM4) (own_onlyAt (Nat.le_refl _)))
    (fun c => own_pure _ _)
    ⟨⟨#[], 0, [], m4, Keyed.empty _ _ _, rfl, CntOf.nil⟩, OnlyAt.refl _ _⟩
    (fun x a' W => ∃ Bx, (w4.heap.size ≤ Bx ∧ a' = { tmps := #[.agg #[.slice sa sn sc], .agg #[.slice a1 n1 c1, .slice a2 n2 c2], .slice da dn dc, .pointer (some ⟨w.heap.size, 0, none⟩), .pointer (some ⟨w.heap.size + 1, 0, none⟩), undef, .slice none 0 0, .pointer (some ⟨w.heap.size + 1 + 1 + 1, 0, none⟩), .pointer (some ⟨Bx, 0, none⟩), undef, undef, undef, .map (some (w.heap.size + 1 + 1)), .agg #[.slice sa sn sc], .agg #[.slice a1 n1 c1, .slice a2 n2 c2], .slice da dn dc, .func (.func 107) #[] #[.pointer (some ⟨w.heap.size + 1 + 1 + 1 + 1, 0, none⟩), .pointer (some ⟨w.heap.size + 1 + 1 + 1 + 1 + 1, 0, none⟩), .pointer (some ⟨w.heap.size + 1 + 1 + 1 + 1 + 1 + 1, 0, none⟩)], bV x.1, undef, undef, undef, undef, undef, undef, undef, undef, undef, undef, undef, undef, undef, undef, undef, undef, undef, undef, undef, undef, undef, undef, undef, undef, undef, undef, undef, undef, undef], defers := [] }) ∧ W.heap[Bx]? = some (.cells (bA x.1) 89 (0, 0)))
    (fun x a' s A B row hs hg hr => by obtain ⟨Bx, h1, h2⟩ := hs; exact ⟨Bx, h1, own_block w4.heap.size Bx (fun (_ : Unit) => bA x.1) _ () A B row h2 hg hr⟩)
    ?assign ?body ?done ?stop
  case assign =>
    rintro l pre x W K ⟨hI, hko⟩ hK
    have hG := heap_alloc_new W (.cells #[.int .i64 0, .int .i64 0, .int .i64 0, .int .i64 0, .int .i64 0, .int .i64 0, .int .i64 0, .int .i64 0, .int .i64 0, .int .i64 0, .int .i64 0, .int .i64 0, .int .i64 0, .int .i64 0, .int .i64 0, .int .i64 0, .int .i64 0, .int .i64 0, .int .i64 0, .int .i64 0] 89)
    have hx := x.2
    have hsL : (#[.int .i64 0, .int .i64 0, .int .i64 0, .int .i64 0, .int .i64 0, .int .i64 0, .int .i64 0, .int .i64 0, .int .i64 0, .int .i64 0, .int .i64 0, .int .i64 0, .int .i64 0, .int .i64 0, .int .i64 0, .int .i64 0, .int .i64 0, .int .i64 0, .int .i64 0, .int .i64 0] : Array Value).size = 20 := rfl
    have HI := Lib.hid hI
    have HKO := Lib.hid hko
    clear hI hko
    simp only [encB]
    gi_wp2_with ((with_reducible refine wpListIn_store_b rfl _ _ rfl _ _ hx _ hsL ?_ ?_ hG ?_); (focus rfl); (focus rfl))
    have hbn : Below W.heap.size W ((W.alloc (.cells #[.int .i64 0, .int .i64 0, .int .i64 0, .int .i64 0, .int .i64 0, .int .i64 0, .int .i64 0, .int .i64 0, .int .i64 0, .int .i64 0, .int .i64 0, .int .i64 0, .int .i64 0, .int .i64 0, .int .i64 0, .int .i64 0, .int .i64 0, .int .i64 0, .int .i64 0, .int .i64 0] 89)).setRow W.heap.size (bA x.1)) := OnlyAt.below (below_alloc W _) (OnlyAt.setRow _ _ _) (by simp)
    exact hK _ _ (keepsFrom_below hbn) (KpB.ofBelow hbn (Nat.le_trans hB4.size HKO.out.size)) ⟨HI.out.grow hbn, HKO.out.same (OnlyAt.ofBelow _ hbn)⟩ ⟨W.heap.size, ⟨HKO.out.size, rfl⟩, setRow_heap _ _ _ _ _ _ hG⟩
  case body =>
    rintro l pre x a' W hl ⟨r, hr⟩ ⟨hI, hko⟩ ⟨Bx, ⟨hBx, rfl⟩, gx⟩ hlt
    have hbW : Below w.heap.size w W := OnlyAt.below hB4 hko (by simp; omega)
    have hfine := bind_fine hlt
    have hd3 := fine_head hfine.1
    obtain ⟨es, clock, ct, m1, m2, m3, m5⟩ := hI
    have hlen : ∀ u ∈ pre.map (hdI d), u.length = d.1.length := fun u hu => by
      obtain ⟨y, _, rfl⟩ := List.mem_map.1 hu
      simp [hdI]
    obtain ⟨t, ht⟩ : ∃ t, t = hdI d x := ⟨_, rfl⟩
    have htl : t.length = d.1.length := by rw [ht]; simp [hdI]
    have htin : ∀ i, inI (t.getD i 0) := fun i => getD_all (p := inI) (by rw [ht]; intro v hv; obtain ⟨q, _, rfl⟩ := List.mem_map.1 hv; exact valD_inI x.2) (by unfold inI; omega) i
    obtain ⟨kl, hkl⟩ := key3 (htin 0) (htin 1) (htin 2)
    obtain ⟨v0, st, es1, clock1, L1, L2, L3, L4⟩ := incr_law (b := w.heap.size + 1 + 1) (Go.WideMaps.ArrKey.law arrKey3) Tryz.underlying99 (z := .int .i64 0) Tryz.zeroValue3 m2 hkl
    obtain ⟨c, hc⟩ : ∃ c : Int, c = ((pre.map (hdI d)).count t : Int) := ⟨_, rfl⟩
    have hv0 : v0 = .int .i64 c := by
      obtain ⟨es2, _, _, h4⟩ := L4 (.int .i64 0)
      rw [hc]; exact puts_val m3 m5 hlen htl hd3.2 h4
    subst hv0
    have hcle : 0 ≤ c ∧ c ≤ 331776 := by
      have h1 := List.count_le_length (a := t) (l := pre.map (hdI d))
      have h2 := HLE.out
      rw [List.length_map] at h1
      omega
    obtain ⟨es2, S1, S2, S3⟩ := L4 (.int .i64 (c + 1))
    obtain ⟨ct', hct1, hct2⟩ := puts_next m3 m5 hlen htl hd3.2 rfl S3
    have HNX : Hid (MInv (setBlock (setBlock W (w.heap.size + 1 + 1) (.map es1 clock1)) (w.heap.size + 1 + 1) (.map es2 clock1)) (w.heap.size + 1 + 1) ((pre ++ [x]).map (hdI d)) → True) := fun _ => trivial
    have HFIN : Hid (∀ W' : World, W'.heap[w.heap.size + 1 + 1]? = some (.map es2 clock1) → MInv W' (w.heap.size + 1 + 1) ((pre ++ [x]).map (hdI d))) := fun W' h => ⟨es2, clock1, ct', h, S1, hct1, by rw [List.map_append]; rw [ht] at hct2; exact hct2⟩
    obtain ⟨y0, hy0⟩ : ∃ y, y = t.getD 0 0 := ⟨_, rfl⟩
    obtain ⟨y1, hy1⟩ : ∃ y, y = t.getD 1 0 := ⟨_, rfl⟩
    obtain ⟨y2, hy2⟩ : ∃ y, y = t.getD 2 0 := ⟨_, rfl⟩
    have htri : tri t = .agg #[.int .i64 y0, .int .i64 y1, .int .i64 y2] := by rw [hy0, hy1, hy2]; rfl
    have hcall : ∀ W' : World, Below w.heap.size w W' → Calls Tryz.prog 76 #[bV x.1, .slice a1 n1 c1] W' (fun e w' => e = .returned (.agg #[.int .i64 y0, .int .i64 y1, .int .i64 y2]) ∧ Below W'.heap.size W' w') := fun W' hb => by
      have := HTUP.out W' x.1 (.slice a1 n1 c1) x.2 (HQ1.out.below hb) hd3.2
      rw [show d.1.map (valD x.1) = t from ht.symm, htri] at this
      exact this
    rw [← hy0, ← hy1, ← hy2] at L1 L2 L3
    have g7 := (hko.block _ (Array.getElem?_eq_some_iff.1 q4).1 (by simp)).trans q4
    have g4 := (hko.block _ (Array.getElem?_eq_some_iff.1 q1).1 (by simp)).trans q1
    have kM : W.drew.cell? ⟨w.heap.size + 1 + 1 + 1, 0, none⟩ = some (.map (some (w.heap.size + 1 + 1))) := cell_of_row _ _ 0 _ _ _ g7
    have kq : W.drew.cell? ⟨w.heap.size + 1, 0, none⟩ = some (.slice a1 n1 c1) := cell_of_row _ _ 0 _ _ _ g4
    have gx' : W.drew.heap[Bx]? = some (.cells (bA x.1) 89 (0, 0)) := gx
    have hx := x.2
    have HL1 := Lib.hid L1
    have HL2 := Lib.hid L2
    have HL3 := Lib.hid L3
    have hwr : IntKind.i64.wrap (c + 1) = c + 1 := by rw [IntKind.wrap_i64]; omega
    rw [← hwr] at S2
    have HS2 := Lib.hid S2
    clear hwr
    have HKO := Lib.hid hko
    have HBW := Lib.hid hbW
    have HCALL := Lib.hid hcall
    have HM1 := Lib.hid m1
    have hc0 : 0 ≤ c := hcle.1
    have hc1 : c ≤ 331776 := hcle.2
    have HGX := Lib.hid gx
    clear hfine hd3 m1 m2 m3 m5 hlen htl htin hkl L1 L2 L3 L4 S1 S2 S3 hct1 hct2 hko hbW hcall g7 g4 hcle hy0 hy1 hy2 htri ht hc e1 e2 e3 HNX gx q1 q4 m4
    gi_wp2_with (fail)
    refine wpIn_region_any (by kernel_rfl) ?_
    change wpAnyIn _ _ _ _ _ _ _ _ _ (World.drew W)
    refine cut5 (fun a w5 => Below W.heap.size W w5 ∧ a = { tmps := #[.agg #[.slice sa sn sc], .agg #[.slice a1 n1 c1, .slice a2 n2 c2], .slice da dn dc, .pointer (some ⟨w.heap.size, 0, none⟩), .pointer (some ⟨w.heap.size + 1, 0, none⟩), undef, .slice none 0 0, .pointer (some ⟨w.heap.size + 1 + 1 + 1, 0, none⟩), .pointer (some ⟨Bx, 0, none⟩), undef, undef, undef, .map (some (w.heap.size + 1 + 1)), .agg #[.slice sa sn sc], .agg #[.slice a1 n1 c1, .slice a2 n2 c2], .slice da dn dc, .func (.func 107) #[] #[.pointer (some ⟨w.heap.size + 1 + 1 + 1 + 1, 0, none⟩), .pointer (some ⟨w.heap.size + 1 + 1 + 1 + 1 + 1, 0, none⟩), .pointer (some ⟨w.heap.size + 1 + 1 + 1 + 1 + 1 + 1, 0, none⟩)], bV x.1, .map (some (w.heap.size + 1 + 1)), bV x.1, .pointer (some ⟨w.heap.size + 1, 0, none⟩), .slice a1 n1 c1, .agg #[.int .i64 y0, .int .i64 y1, .int .i64 y2], undef, undef, undef, undef, undef, undef, undef, undef, undef, undef, undef, undef, undef, undef, undef, undef, undef, undef, undef, undef, undef, undef, undef, undef], defers := [] }) ?_ ?_
    · rintro a w5 ⟨hb5, rfl⟩
      have HB5 := Lib.hid hb5
      have HM5 := Lib.hid ((hb5.block _ (Array.getElem?_eq_some_iff.1 HM1.out).1).trans HM1.out)
      clear hb5 kM kq gx'
      refine wpAnyIn_ready (rs := [5, 7]) (by kernel_rfl) (by simp) ?_
      refine AllReadyIn.cons rfl (fun K hK => inR rfl rfl ?_) (AllReadyIn.cons rfl (fun K hK => inR rfl rfl ?_) AllReadyIn.nil)
      · refine step_lookup rfl rfl rfl rfl (HL1.out _ HM5.out) ?_
        refine hK _ _ ?_
        clear hK K
        refine wpAnyIn_ready (rs := [6, 7]) (by kernel_rfl) (by simp) ?_
        refine AllReadyIn.cons rfl (fun K hK => inR rfl rfl ?_) (AllReadyIn.cons rfl (fun K hK => inR rfl rfl ?_) AllReadyIn.nil)
        · go_simp
          refine hK _ _ ?_
          clear hK K
          refine wpAnyIn_ready (rs := [7]) (by kernel_rfl) (by simp) ?_
          refine AllReadyIn.cons rfl (fun K hK => inR rfl rfl ?_) AllReadyIn.nil
          · refine step_entry rfl rfl rfl rfl (HL3.out _ HM5.out) ?_
            refine hK _ _ ?_
            clear hK K
            have HM6 := Lib.hid (setBlock_heap (o' := .map es1 clock1) HM5.out)
            have HO6 := Lib.hid (setBlock_only w5 (w.heap.size + 1 + 1) (.map es1 clock1))
            generalize setBlock w5 (w.heap.size + 1 + 1) (.map es1 clock1) = w6 at *
            refine wpAnyIn_ready (rs := [8]) (by kernel_rfl) (by simp) ?_
            refine AllReadyIn.cons rfl (fun K hK => inR rfl rfl ?_) AllReadyIn.nil
            · go_simp
              refine hK _ _ ?_
              clear hK K
              refine wpAnyIn_ready (rs := [9]) (by kernel_rfl) (by simp) ?_
              refine AllReadyIn.cons rfl (fun K hK => inR rfl rfl ?_) AllReadyIn.nil
              · refine step_estore rfl rfl rfl rfl rfl (HS2.out _ HM6.out) ?_
                refine hK _ _ ?_
                clear hK K
                refine wpAnyIn_done (by kernel_rfl) ?_ _
                have hon := (OnlyAt.ofBelow [w.heap.size + 1 + 1] HB5.out).same (HO6.out.same (setBlock_only w6 (w.heap.size + 1 + 1) (.map es2 clock1)))
                obtain ⟨f1, f2⟩ := minv_keeps (n₀ := w.heap.size) (B := w4.heap.size) hon HM1.out (by omega) HBW.out.size hM4
                exact ⟨f1, f2, HFIN.out _ (setBlock_heap HM6.out), HKO.out.same hon⟩
        · refine step_entry rfl rfl rfl rfl (HL3.out _ HM5.out) ?_
          refine hK _ _ ?_
          clear hK K
          have HM6 := Lib.hid (setBlock_heap (o' := .map es1 clock1) HM5.out)
          have HO6 := Lib.hid (setBlock_only w5 (w.heap.size + 1 + 1) (.map es1 clock1))
          generalize setBlock w5 (w.heap.size + 1 + 1) (.map es1 clock1) = w6 at *
          refine wpAnyIn_ready (rs := [6, 8]) (by kernel_rfl) (by simp) ?_
          refine AllReadyIn.cons rfl (fun K hK => inR rfl rfl ?_) (AllReadyIn.cons rfl (fun K hK => inR rfl rfl ?_) AllReadyIn.nil)
          · go_simp
            refine hK _ _ ?_
            clear hK K
            refine wpAnyIn_ready (rs := [8]) (by kernel_rfl) (by simp) ?_
            refine AllReadyIn.cons rfl (fun K hK => inR rfl rfl ?_) AllReadyIn.nil
            · go_simp
              refine hK _ _ ?_
              clear hK K
              refine wpAnyIn_ready (rs := [9]) (by kernel_rfl) (by simp) ?_
              refine AllReadyIn.cons rfl (fun K hK => inR rfl rfl ?_) AllReadyIn.nil
              · refine step_estore rfl rfl rfl rfl rfl (HS2.out _ HM6.out) ?_
                refine hK _ _ ?_
                clear hK K
                refine wpAnyIn_done (by kernel_rfl) ?_ _
                have hon := (OnlyAt.ofBelow [w.heap.size + 1 + 1] HB5.out).same (HO6.out.same (setBlock_only w6 (w.heap.size + 1 + 1) (.map es2 clock1)))
                obtain ⟨f1, f2⟩ := minv_keeps (n₀ := w.heap.size) (B := w4.heap.size) hon HM1.out (by omega) HBW.out.size hM4
                exact ⟨f1, f2, HFIN.out _ (setBlock_heap HM6.out), HKO.out.same hon⟩
          · go_simp
            refine hK _ _ ?_
            clear hK K
            refine wpAnyIn_ready (rs := [6]) (by kernel_rfl) (by simp) ?_
            refine AllReadyIn.cons rfl (fun K hK => inR rfl rfl ?_) AllReadyIn.nil
            · go_simp
              refine hK _ _ ?_
              clear hK K
              refine wpAnyIn_ready (rs := [9]) (by kernel_rfl) (by simp) ?_
              refine AllReadyIn.cons rfl (fun K hK => inR rfl rfl ?_) AllReadyIn.nil
              · refine step_estore rfl rfl rfl rfl rfl (HS2.out _ HM6.out) ?_
                refine hK _ _ ?_
                clear hK K
                refine wpAnyIn_done (by kernel_rfl) ?_ _
                have hon := (OnlyAt.ofBelow [w.heap.size + 1 + 1] HB5.out).same (HO6.out.same (setBlock_only w6 (w.heap.size + 1 + 1) (.map es2 clock1)))
                obtain ⟨f1, f2⟩ := minv_keeps (n₀ := w.heap.size) (B := w4.heap.size) hon HM1.out (by omega) HBW.out.size hM4
                exact ⟨f1, f2, HFIN.out _ (setBlock_heap HM6.out), HKO.out.same hon⟩
      · refine step_entry rfl rfl rfl rfl (HL3.out _ HM5.out) ?_
        refine hK _ _ ?_
        clear hK K
        have HM6 := Lib.hid (setBlock_heap (o' := .map es1 clock1) HM5.out)
        have HO6 := Lib.hid (setBlock_only w5 (w.heap.size + 1 + 1) (.map es1 clock1))
        generalize setBlock w5 (w.heap.size + 1 + 1) (.map es1 clock1) = w6 at *
        refine wpAnyIn_ready (rs := [5, 8]) (by kernel_rfl) (by simp) ?_
        refine AllReadyIn.cons rfl (fun K hK => inR rfl rfl ?_) (AllReadyIn.cons rfl (fun K hK => inR rfl rfl ?_) AllReadyIn.nil)
        · refine step_lookup rfl rfl rfl rfl (HL2.out _ HM6.out) ?_
          refine hK _ _ ?_
          clear hK K
          refine wpAnyIn_ready (rs := [6, 8]) (by kernel_rfl) (by simp) ?_
          refine AllReadyIn.cons rfl (fun K hK => inR rfl rfl ?_) (AllReadyIn.cons rfl (fun K hK => inR rfl rfl ?_) AllReadyIn.nil)
          · go_simp
            refine hK _ _ ?_
            clear hK K
            refine wpAnyIn_ready (rs := [8]) (by kernel_rfl) (by simp) ?_
            refine AllReadyIn.cons rfl (fun K hK => inR rfl rfl ?_) AllReadyIn.nil
            · go_simp
              refine hK _ _ ?_
              clear hK K
              refine wpAnyIn_ready (rs := [9]) (by kernel_rfl) (by simp) ?_
              refine AllReadyIn.cons rfl (fun K hK => inR rfl rfl ?_) AllReadyIn.nil
              · refine step_estore rfl rfl rfl rfl rfl (HS2.out _ HM6.out) ?_
                refine hK _ _ ?_
                clear hK K
                refine wpAnyIn_done (by kernel_rfl) ?_ _
                have hon := (OnlyAt.ofBelow [w.heap.size + 1 + 1] HB5.out).same (HO6.out.same (setBlock_only w6 (w.heap.size + 1 + 1) (.map es2 clock1)))
                obtain ⟨f1, f2⟩ := minv_keeps (n₀ := w.heap.size) (B := w4.heap.size) hon HM1.out (by omega) HBW.out.size hM4
                exact ⟨f1, f2, HFIN.out _ (setBlock_heap HM6.out), HKO.out.same hon⟩
          · go_simp
            refine hK _ _ ?_
            clear hK K
            refine wpAnyIn_ready (rs := [6]) (by kernel_rfl) (by simp) ?_
            refine AllReadyIn.cons rfl (fun K hK => inR rfl rfl ?_) AllReadyIn.nil
            · go_simp
              refine hK _ _ ?_
              clear hK K
              refine wpAnyIn_ready (rs := [9]) (by kernel_rfl) (by simp) ?_
              refine AllReadyIn.cons rfl (fun K hK => inR rfl rfl ?_) AllReadyIn.nil
              · refine step_estore rfl rfl rfl rfl rfl (HS2.out _ HM6.out) ?_
                refine hK _ _ ?_
                clear hK K
                refine wpAnyIn_done (by kernel_rfl) ?_ _
                have hon := (OnlyAt.ofBelow [w.heap.size + 1 + 1] HB5.out).same (HO6.out.same (setBlock_only w6 (w.heap.size + 1 + 1) (.map es2 clock1)))
                obtain ⟨f1, f2⟩ := minv_keeps (n₀ := w.heap.size) (B := w4.heap.size) hon HM1.out (by omega) HBW.out.size hM4
                exact ⟨f1, f2, HFIN.out _ (setBlock_heap HM6.out), HKO.out.same hon⟩
        · go_simp
          refine hK _ _ ?_
          clear hK K
          refine wpAnyIn_ready (rs := [5]) (by kernel_rfl) (by simp) ?_
          refine AllReadyIn.cons rfl (fun K hK => inR rfl rfl ?_) AllReadyIn.nil
          · refine step_lookup rfl rfl rfl rfl (HL2.out _ HM6.out) ?_
            refine hK _ _ ?_
            clear hK K
            refine wpAnyIn_ready (rs := [6]) (by kernel_rfl) (by simp) ?_
            refine AllReadyIn.cons rfl (fun K hK => inR rfl rfl ?_) AllReadyIn.nil
            · go_simp
              refine hK _ _ ?_
              clear hK K
              refine wpAnyIn_ready (rs := [9]) (by kernel_rfl) (by simp) ?_
              refine AllReadyIn.cons rfl (fun K hK => inR rfl rfl ?_) AllReadyIn.nil
              · refine step_estore rfl rfl rfl rfl rfl (HS2.out _ HM6.out) ?_
                refine hK _ _ ?_
                clear hK K
                refine wpAnyIn_done (by kernel_rfl) ?_ _
                have hon := (OnlyAt.ofBelow [w.heap.size + 1 + 1] HB5.out).same (HO6.out.same (setBlock_only w6 (w.heap.size + 1 + 1) (.map es2 clock1)))
                obtain ⟨f1, f2⟩ := minv_keeps (n₀ := w.heap.size) (B := w4.heap.size) hon HM1.out (by omega) HBW.out.size hM4
                exact ⟨f1, f2, HFIN.out _ (setBlock_heap HM6.out), HKO.out.same hon⟩
    intro hcut
    refine wpAnyIn_ready (rs := [0, 1, 2]) (by kernel_rfl) (by simp) ?_
    refine AllReadyIn.cons rfl (fun K hK => inR rfl rfl ?_) (AllReadyIn.cons rfl (fun K hK => inR rfl rfl ?_) (AllReadyIn.cons rfl (fun K hK => inR rfl rfl ?_) AllReadyIn.nil))
    · go_simp
      refine hK _ _ ?_
      clear hK K
      refine wpAnyIn_ready (rs := [1, 2]) (by kernel_rfl) (by simp) ?_
      refine AllReadyIn.cons rfl (fun K hK => inR rfl rfl ?_) (AllReadyIn.cons rfl (fun K hK => inR rfl rfl ?_) AllReadyIn.nil)
      · refine step_load_b rfl rfl hx rfl gx' ?_
        refine hK _ _ ?_
        clear hK K
        refine wpAnyIn_ready (rs := [2]) (by kernel_rfl) (by simp) ?_
        refine AllReadyIn.cons rfl (fun K hK => inR rfl rfl ?_) AllReadyIn.nil
        · go_simp
          refine hK _ _ ?_
          clear hK K
          refine wpAnyIn_ready (rs := [3]) (by kernel_rfl) (by simp) ?_
          refine AllReadyIn.cons rfl (fun K hK => inR rfl rfl ?_) AllReadyIn.nil
          · go_simp
            refine hK _ _ ?_
            clear hK K
            refine wpAnyIn_ready (rs := [4]) (by kernel_rfl) (by simp) ?_
            refine AllReadyIn.cons rfl (fun K hK => inR rfl rfl ?_) AllReadyIn.nil
            · go_simp
              refine (HCALL.out _ (HBW.out.trans ((Below.refl _ _).drew.mono HBW.out.size))).mono ?_
              rintro e w5 ⟨rfl, hb5'⟩
              have hb5 : Below W.heap.size W w5 := bnext (Below.refl W.heap.size W).drew hb5'
              have HB5 := Lib.hid hb5
              have kM5 := cellk hb5 (show W.cell? ⟨w.heap.size + 1 + 1 + 1, 0, none⟩ = some (.map (some (w.heap.size + 1 + 1))) from kM)
              have HM5 := Lib.hid ((hb5.block _ (Array.getElem?_eq_some_iff.1 HM1.out).1).trans HM1.out)
              clear hb5 hb5'
              go_simp
              refine hK _ _ ?_
              clear hK K
              exact hcut _ _ ⟨HB5.out, rfl⟩
      · go_simp
        refine hK _ _ ?_
        clear hK K
        refine wpAnyIn_ready (rs := [1, 3]) (by kernel_rfl) (by simp) ?_
        refine AllReadyIn.cons rfl (fun K hK => inR rfl rfl ?_) (AllReadyIn.cons rfl (fun K hK => inR rfl rfl ?_) AllReadyIn.nil)
        · refine step_load_b rfl rfl hx rfl gx' ?_
          refine hK _ _ ?_
          clear hK K
          refine wpAnyIn_ready (rs := [3]) (by kernel_rfl) (by simp) ?_
          refine AllReadyIn.cons rfl (fun K hK => inR rfl rfl ?_) AllReadyIn.nil
          · go_simp
            refine hK _ _ ?_
            clear hK K
            refine wpAnyIn_ready (rs := [4]) (by kernel_rfl) (by simp) ?_
            refine AllReadyIn.cons rfl (fun K hK => inR rfl rfl ?_) AllReadyIn.nil
            · go_simp
              refine (HCALL.out _ (HBW.out.trans ((Below.refl _ _).drew.mono HBW.out.size))).mono ?_
              rintro e w5 ⟨rfl, hb5'⟩
              have hb5 : Below W.heap.size W w5 := bnext (Below.refl W.heap.size W).drew hb5'
              have HB5 := Lib.hid hb5
              have kM5 := cellk hb5 (show W.cell? ⟨w.heap.size + 1 + 1 + 1, 0, none⟩ = some (.map (some (w.heap.size + 1 + 1))) from kM)
              have HM5 := Lib.hid ((hb5.block _ (Array.getElem?_eq_some_iff.1 HM1.out).1).trans HM1.out)
              clear hb5 hb5'
              go_simp
              refine hK _ _ ?_
              clear hK K
              exact hcut _ _ ⟨HB5.out, rfl⟩
        · go_simp
          refine hK _ _ ?_
          clear hK K
          refine wpAnyIn_ready (rs := [1]) (by kernel_rfl) (by simp) ?_
          refine AllReadyIn.cons rfl (fun K hK => inR rfl rfl ?_) AllReadyIn.nil
          · refine step_load_b rfl rfl hx rfl gx' ?_
            refine hK _ _ ?_
            clear hK K
            refine wpAnyIn_ready (rs := [4]) (by kernel_rfl) (by simp) ?_
            refine AllReadyIn.cons rfl (fun K hK => inR rfl rfl ?_) AllReadyIn.nil
            · go_simp
              refine (HCALL.out _ (HBW.out.trans ((Below.refl _ _).drew.mono HBW.out.size))).mono ?_
              rintro e w5 ⟨rfl, hb5'⟩
              have hb5 : Below W.heap.size W w5 := bnext (Below.refl W.heap.size W).drew hb5'
              have HB5 := Lib.hid hb5
              have kM5 := cellk hb5 (show W.cell? ⟨w.heap.size + 1 + 1 + 1, 0, none⟩ = some (.map (some (w.heap.size + 1 + 1))) from kM)
              have HM5 := Lib.hid ((hb5.block _ (Array.getElem?_eq_some_iff.1 HM1.out).1).trans HM1.out)
              clear hb5 hb5'
              go_simp
              refine hK _ _ ?_
              clear hK K
              exact hcut _ _ ⟨HB5.out, rfl⟩
    · refine step_load_b rfl rfl hx rfl gx' ?_
      refine hK _ _ ?_
      clear hK K
      refine wpAnyIn_ready (rs := [0, 2]) (by kernel_rfl) (by simp) ?_
      refine AllReadyIn.cons rfl (fun K hK => inR rfl rfl ?_) (AllReadyIn.cons rfl (fun K hK => inR rfl rfl ?_) AllReadyIn.nil)
      · go_simp
        refine hK _ _ ?_
        clear hK K
        refine wpAnyIn_ready (rs := [2]) (by kernel_rfl) (by simp) ?_
        refine AllReadyIn.cons rfl (fun K hK => inR rfl rfl ?_) AllReadyIn.nil
        · go_simp
          refine hK _ _ ?_
          clear hK K
          refine wpAnyIn_ready (rs := [3]) (by kernel_rfl) (by simp) ?_
          refine AllReadyIn.cons rfl (fun K hK => inR rfl rfl ?_) AllReadyIn.nil
          · go_simp
            refine hK _ _ ?_
            clear hK K
            refine wpAnyIn_ready (rs := [4]) (by kernel_rfl) (by simp) ?_
            refine AllReadyIn.cons rfl (fun K hK => inR rfl rfl ?_) AllReadyIn.nil
            · go_simp
              refine (HCALL.out _ (HBW.out.trans ((Below.refl _ _).drew.mono HBW.out.size))).mono ?_
              rintro e w5 ⟨rfl, hb5'⟩
              have hb5 : Below W.heap.size W w5 := bnext (Below.refl W.heap.size W).drew hb5'
              have HB5 := Lib.hid hb5
              have kM5 := cellk hb5 (show W.cell? ⟨w.heap.size + 1 + 1 + 1, 0, none⟩ = some (.map (some (w.heap.size + 1 + 1))) from kM)
              have HM5 := Lib.hid ((hb5.block _ (Array.getElem?_eq_some_iff.1 HM1.out).1).trans HM1.out)
              clear hb5 hb5'
              go_simp
              refine hK _ _ ?_
              clear hK K
              exact hcut _ _ ⟨HB5.out, rfl⟩
      · go_simp
        refine hK _ _ ?_
        clear hK K
        refine wpAnyIn_ready (rs := [0, 3]) (by kernel_rfl) (by simp) ?_
        refine AllReadyIn.cons rfl (fun K hK => inR rfl rfl ?_) (AllReadyIn.cons rfl (fun K hK => inR rfl rfl ?_) AllReadyIn.nil)
        · go_simp
          refine hK _ _ ?_
          clear hK K
          refine wpAnyIn_ready (rs := [3]) (by kernel_rfl) (by simp) ?_
          refine AllReadyIn.cons rfl (fun K hK => inR rfl rfl ?_) AllReadyIn.nil
          · go_simp
            refine hK _ _ ?_
            clear hK K
            refine wpAnyIn_ready (rs := [4]) (by kernel_rfl) (by simp) ?_
            refine AllReadyIn.cons rfl (fun K hK => inR rfl rfl ?_) AllReadyIn.nil
            · go_simp
              refine (HCALL.out _ (HBW.out.trans ((Below.refl _ _).drew.mono HBW.out.size))).mono ?_
              rintro e w5 ⟨rfl, hb5'⟩
              have hb5 : Below W.heap.size W w5 := bnext (Below.refl W.heap.size W).drew hb5'
              have HB5 := Lib.hid hb5
              have kM5 := cellk hb5 (show W.cell? ⟨w.heap.size + 1 + 1 + 1, 0, none⟩ = some (.map (some (w.heap.size + 1 + 1))) from kM)
              have HM5 := Lib.hid ((hb5.block _ (Array.getElem?_eq_some_iff.1 HM1.out).1).trans HM1.out)
              clear hb5 hb5'
              go_simp
              refine hK _ _ ?_
              clear hK K
              exact hcut _ _ ⟨HB5.out, rfl⟩
        · go_simp
          refine hK _ _ ?_
          clear hK K
          refine wpAnyIn_ready (rs := [0, 4]) (by kernel_rfl) (by simp) ?_
          refine AllReadyIn.cons rfl (fun K hK => inR rfl rfl ?_) (AllReadyIn.cons rfl (fun K hK => inR rfl rfl ?_) AllReadyIn.nil)
          · go_simp
            refine hK _ _ ?_
            clear hK K
            refine wpAnyIn_ready (rs := [4]) (by kernel_rfl) (by simp) ?_
            refine AllReadyIn.cons rfl (fun K hK => inR rfl rfl ?_) AllReadyIn.nil
            · go_simp
              refine (HCALL.out _ (HBW.out.trans ((Below.refl _ _).drew.mono HBW.out.size))).mono ?_
              rintro e w5 ⟨rfl, hb5'⟩
              have hb5 : Below W.heap.size W w5 := bnext (Below.refl W.heap.size W).drew hb5'
              have HB5 := Lib.hid hb5
              have kM5 := cellk hb5 (show W.cell? ⟨w.heap.size + 1 + 1 + 1, 0, none⟩ = some (.map (some (w.heap.size + 1 + 1))) from kM)
              have HM5 := Lib.hid ((hb5.block _ (Array.getElem?_eq_some_iff.1 HM1.out).1).trans HM1.out)
              clear hb5 hb5'
              go_simp
              refine hK _ _ ?_
              clear hK K
              exact hcut _ _ ⟨HB5.out, rfl⟩
          · go_simp
            refine (HCALL.out _ (HBW.out.trans ((Below.refl _ _).drew.mono HBW.out.size))).mono ?_
            rintro e w5 ⟨rfl, hb5'⟩
            have hb5 : Below W.heap.size W w5 := bnext (Below.refl W.heap.size W).drew hb5'
            have HB5 := Lib.hid hb5
            have kM5 := cellk hb5 (show W.cell? ⟨w.heap.size + 1 + 1 + 1, 0, none⟩ = some (.map (some (w.heap.size + 1 + 1))) from kM)
            have HM5 := Lib.hid ((hb5.block _ (Array.getElem?_eq_some_iff.1 HM1.out).1).trans HM1.out)
            clear hb5 hb5'
            go_simp
            refine hK _ _ ?_
            clear hK K
            refine wpAnyIn_ready (rs := [0]) (by kernel_rfl) (by simp) ?_
            refine AllReadyIn.cons rfl (fun K hK => inR rfl rfl ?_) AllReadyIn.nil
            · go_simp
              refine hK _ _ ?_
              clear hK K
              exact hcut _ _ ⟨HB5.out, rfl⟩
    · go_simp
      refine hK _ _ ?_
      clear hK K
      refine wpAnyIn_ready (rs := [0, 1, 3]) (by kernel_rfl) (by simp) ?_
      refine AllReadyIn.cons rfl (fun K hK => inR rfl rfl ?_) (AllReadyIn.cons rfl (fun K hK => inR rfl rfl ?_) (AllReadyIn.cons rfl (fun K hK => inR rfl rfl ?_) AllReadyIn.nil))
      · go_simp
        refine hK _ _ ?_
        clear hK K
        refine wpAnyIn_ready (rs := [1, 3]) (by kernel_rfl) (by simp) ?_
        refine AllReadyIn.cons rfl (fun K hK => inR rfl rfl ?_) (AllReadyIn.cons rfl (fun K hK => inR rfl rfl ?_) AllReadyIn.nil)
        · refine step_load_b rfl rfl hx rfl gx' ?_
          refine hK _ _ ?_
          clear hK K
          refine wpAnyIn_ready (rs := [3]) (by kernel_rfl) (by simp) ?_
          refine AllReadyIn.cons rfl (fun K hK => inR rfl rfl ?_) AllReadyIn.nil
          · go_simp
            refine hK _ _ ?_
            clear hK K
            refine wpAnyIn_ready (rs := [4]) (by kernel_rfl) (by simp) ?_
            refine AllReadyIn.cons rfl (fun K hK => inR rfl rfl ?_) AllReadyIn.nil
            · go_simp
              refine (HCALL.out _ (HBW.out.trans ((Below.refl _ _).drew.mono HBW.out.size))).mono ?_
              rintro e w5 ⟨rfl, hb5'⟩
              have hb5 : Below W.heap.size W w5 := bnext (Below.refl W.heap.size W).drew hb5'
              have HB5 := Lib.hid hb5
              have kM5 := cellk hb5 (show W.cell? ⟨w.heap.size + 1 + 1 + 1, 0, none⟩ = some (.map (some (w.heap.size + 1 + 1))) from kM)
              have HM5 := Lib.hid ((hb5.block _ (Array.getElem?_eq_some_iff.1 HM1.out).1).trans HM1.out)
              clear hb5 hb5'
              go_simp
              refine hK _ _ ?_
              clear hK K
              exact hcut _ _ ⟨HB5.out, rfl⟩
        · go_simp
          refine hK _ _ ?_
          clear hK K
          refine wpAnyIn_ready (rs := [1]) (by kernel_rfl) (by simp) ?_
          refine AllReadyIn.cons rfl (fun K hK => inR rfl rfl ?_) AllReadyIn.nil
          · refine step_load_b rfl rfl hx rfl gx' ?_
            refine hK _ _ ?_
            clear hK K
            refine wpAnyIn_ready (rs := [4]) (by kernel_rfl) (by simp) ?_
            refine AllReadyIn.cons rfl (fun K hK => inR rfl rfl ?_) AllReadyIn.nil
            · go_simp
              refine (HCALL.out _ (HBW.out.trans ((Below.refl _ _).drew.mono HBW.out.size))).mono ?_
              rintro e w5 ⟨rfl, hb5'⟩
              have hb5 : Below W.heap.size W w5 := bnext (Below.refl W.heap.size W).drew hb5'
              have HB5 := Lib.hid hb5
              have kM5 := cellk hb5 (show W.cell? ⟨w.heap.size + 1 + 1 + 1, 0, none⟩ = some (.map (some (w.heap.size + 1 + 1))) from kM)
              have HM5 := Lib.hid ((hb5.block _ (Array.getElem?_eq_some_iff.1 HM1.out).1).trans HM1.out)
              clear hb5 hb5'
              go_simp
              refine hK _ _ ?_
              clear hK K
              exact hcut _ _ ⟨HB5.out, rfl⟩
      · refine step_load_b rfl rfl hx rfl gx' ?_
        refine hK _ _ ?_
        clear hK K
        refine wpAnyIn_ready (rs := [0, 3]) (by kernel_rfl) (by simp) ?_
        refine AllReadyIn.cons rfl (fun K hK => inR rfl rfl ?_) (AllReadyIn.cons rfl (fun K hK => inR rfl rfl ?_) AllReadyIn.nil)
        · go_simp
          refine hK _ _ ?_
          clear hK K
          refine wpAnyIn_ready (rs := [3]) (by kernel_rfl) (by simp) ?_
          refine AllReadyIn.cons rfl (fun K hK => inR rfl rfl ?_) AllReadyIn.nil
          · go_simp
            refine hK _ _ ?_
            clear hK K
            refine wpAnyIn_ready (rs := [4]) (by kernel_rfl) (by simp) ?_
            refine AllReadyIn.cons rfl (fun K hK => inR rfl rfl ?_) AllReadyIn.nil
            · go_simp
              refine (HCALL.out _ (HBW.out.trans ((Below.refl _ _).drew.mono HBW.out.size))).mono ?_
              rintro e w5 ⟨rfl, hb5'⟩
              have hb5 : Below W.heap.size W w5 := bnext (Below.refl W.heap.size W).drew hb5'
              have HB5 := Lib.hid hb5
              have kM5 := cellk hb5 (show W.cell? ⟨w.heap.size + 1 + 1 + 1, 0, none⟩ = some (.map (some (w.heap.size + 1 + 1))) from kM)
              have HM5 := Lib.hid ((hb5.block _ (Array.getElem?_eq_some_iff.1 HM1.out).1).trans HM1.out)
              clear hb5 hb5'
              go_simp
              refine hK _ _ ?_
              clear hK K
              exact hcut _ _ ⟨HB5.out, rfl⟩
        · go_simp
          refine hK _ _ ?_
          clear hK K
          refine wpAnyIn_ready (rs := [0, 4]) (by kernel_rfl) (by simp) ?_
          refine AllReadyIn.cons rfl (fun K hK => inR rfl rfl ?_) (AllReadyIn.cons rfl (fun K hK => inR rfl rfl ?_) AllReadyIn.nil)
          · go_simp
            refine hK _ _ ?_
            clear hK K
            refine wpAnyIn_ready (rs := [4]) (by kernel_rfl) (by simp) ?_
            refine AllReadyIn.cons rfl (fun K hK => inR rfl rfl ?_) AllReadyIn.nil
            · go_simp
              refine (HCALL.out _ (HBW.out.trans ((Below.refl _ _).drew.mono HBW.out.size))).mono ?_
              rintro e w5 ⟨rfl, hb5'⟩
              have hb5 : Below W.heap.size W w5 := bnext (Below.refl W.heap.size W).drew hb5'
              have HB5 := Lib.hid hb5
              have kM5 := cellk hb5 (show W.cell? ⟨w.heap.size + 1 + 1 + 1, 0, none⟩ = some (.map (some (w.heap.size + 1 + 1))) from kM)
              have HM5 := Lib.hid ((hb5.block _ (Array.getElem?_eq_some_iff.1 HM1.out).1).trans HM1.out)
              clear hb5 hb5'
              go_simp
              refine hK _ _ ?_
              clear hK K
              exact hcut _ _ ⟨HB5.out, rfl⟩
          · go_simp
            refine (HCALL.out _ (HBW.out.trans ((Below.refl _ _).drew.mono HBW.out.size))).mono ?_
            rintro e w5 ⟨rfl, hb5'⟩
            have hb5 : Below W.heap.size W w5 := bnext (Below.refl W.heap.size W).drew hb5'
            have HB5 := Lib.hid hb5
            have kM5 := cellk hb5 (show W.cell? ⟨w.heap.size + 1 + 1 + 1, 0, none⟩ = some (.map (some (w.heap.size + 1 + 1))) from kM)
            have HM5 := Lib.hid ((hb5.block _ (Array.getElem?_eq_some_iff.1 HM1.out).1).trans HM1.out)
            clear hb5 hb5'
            go_simp
            refine hK _ _ ?_
            clear hK K
            refine wpAnyIn_ready (rs := [0]) (by kernel_rfl) (by simp) ?_
            refine AllReadyIn.cons rfl (fun K hK => inR rfl rfl ?_) AllReadyIn.nil
            · go_simp
              refine hK _ _ ?_
              clear hK K
              exact hcut _ _ ⟨HB5.out, rfl⟩
      · go_simp
        refine hK _ _ ?_
        clear hK K
        refine wpAnyIn_ready (rs := [0, 1]) (by kernel_rfl) (by simp) ?_
        refine AllReadyIn.cons rfl (fun K hK => inR rfl rfl ?_) (AllReadyIn.cons rfl (fun K hK => inR rfl rfl ?_) AllReadyIn.nil)
        · go_simp
          refine hK _ _ ?_
          clear hK K
          refine wpAnyIn_ready (rs := [1]) (by kernel_rfl) (by simp) ?_
          refine AllReadyIn.cons rfl (fun K hK => inR rfl rfl ?_) AllReadyIn.nil
          · refine step_load_b rfl rfl hx rfl gx' ?_
            refine hK _ _ ?_
            clear hK K
            refine wpAnyIn_ready (rs := [4]) (by kernel_rfl) (by simp) ?_
            refine AllReadyIn.cons rfl (fun K hK => inR rfl rfl ?_) AllReadyIn.nil
            · go_simp
              refine (HCALL.out _ (HBW.out.trans ((Below.refl _ _).drew.mono HBW.out.size))).mono ?_
              rintro e w5 ⟨rfl, hb5'⟩
              have hb5 : Below W.heap.size W w5 := bnext (Below.refl W.heap.size W).drew hb5'
              have HB5 := Lib.hid hb5
              have kM5 := cellk hb5 (show W.cell? ⟨w.heap.size + 1 + 1 + 1, 0, none⟩ = some (.map (some (w.heap.size + 1 + 1))) from kM)
              have HM5 := Lib.hid ((hb5.block _ (Array.getElem?_eq_some_iff.1 HM1.out).1).trans HM1.out)
              clear hb5 hb5'
              go_simp
              refine hK _ _ ?_
              clear hK K
              exact hcut _ _ ⟨HB5.out, rfl⟩
        · refine step_load_b rfl rfl hx rfl gx' ?_
          refine hK _ _ ?_
          clear hK K
          refine wpAnyIn_ready (rs := [0, 4]) (by kernel_rfl) (by simp) ?_
          refine AllReadyIn.cons rfl (fun K hK => inR rfl rfl ?_) (AllReadyIn.cons rfl (fun K hK => inR rfl rfl ?_) AllReadyIn.nil)
          · go_simp
            refine hK _ _ ?_
            clear hK K
            refine wpAnyIn_ready (rs := [4]) (by kernel_rfl) (by simp) ?_
            refine AllReadyIn.cons rfl (fun K hK => inR rfl rfl ?_) AllReadyIn.nil
            · go_simp
              refine (HCALL.out _ (HBW.out.trans ((Below.refl _ _).drew.mono HBW.out.size))).mono ?_
              rintro e w5 ⟨rfl, hb5'⟩
              have hb5 : Below W.heap.size W w5 := bnext (Below.refl W.heap.size W).drew hb5'
              have HB5 := Lib.hid hb5
              have kM5 := cellk hb5 (show W.cell? ⟨w.heap.size + 1 + 1 + 1, 0, none⟩ = some (.map (some (w.heap.size + 1 + 1))) from kM)
              have HM5 := Lib.hid ((hb5.block _ (Array.getElem?_eq_some_iff.1 HM1.out).1).trans HM1.out)
              clear hb5 hb5'
              go_simp
              refine hK _ _ ?_
              clear hK K
              exact hcut _ _ ⟨HB5.out, rfl⟩
          · go_simp
            refine (HCALL.out _ (HBW.out.trans ((Below.refl _ _).drew.mono HBW.out.size))).mono ?_
            rintro e w5 ⟨rfl, hb5'⟩
            have hb5 : Below W.heap.size W w5 := bnext (Below.refl W.heap.size W).drew hb5'
            have HB5 := Lib.hid hb5
            have kM5 := cellk hb5 (show W.cell? ⟨w.heap.size + 1 + 1 + 1, 0, none⟩ = some (.map (some (w.heap.size + 1 + 1))) from kM)
            have HM5 := Lib.hid ((hb5.block _ (Array.getElem?_eq_some_iff.1 HM1.out).1).trans HM1.out)
            clear hb5 hb5'
            go_simp
            refine hK _ _ ?_
            clear hK K
            refine wpAnyIn_ready (rs := [0]) (by kernel_rfl) (by simp) ?_
            refine AllReadyIn.cons rfl (fun K hK => inR rfl rfl ?_) AllReadyIn.nil
            · go_simp
              refine hK _ _ ?_
              clear hK K
              exact hcut _ _ ⟨HB5.out, rfl⟩
  case done =>
    rintro D xs W hD hS ⟨hI, hko⟩ hK
    have hbW : Below w.heap.size w W := OnlyAt.below hB4 hko (by simp; omega)
    obtain ⟨es, clock, ct, m1, m2, m3, m5⟩ := hI
    have b3 := (hko.block _ (Array.getElem?_eq_some_iff.1 q4).1 (by simp)).trans q4
    have b1 := (hko.block _ (Array.getElem?_eq_some_iff.1 q1).1 (by simp; try omega)).trans q1
    have hfin : ∀ x ∈ xs, d.1.length ≤ 3 := fun x hx => by
      have : x.val ∈ bindI s d db := by rw [← hS]; exact List.mem_map.2 ⟨x, hx, rfl⟩
      obtain ⟨i, hi⟩ := List.mem_iff_getElem?.1 this
      exact (fine_head (bind_fine (List.getElem?_eq_some_iff.1 hi).1).1).2
    have hct3 : ∀ p ∈ ct, p.1.length = d.1.length ∧ d.1.length ≤ 3 ∧ ∀ v ∈ p.1, inI v := fun p hp => by
      obtain ⟨x, hx, e⟩ := List.mem_map.1 ((m5.2.1 p.1).1 (List.mem_map.2 ⟨p, hp, rfl⟩))
      refine ⟨by rw [← e]; simp [hdI], hfin x hx, ?_⟩
      rw [← e]; intro v hv; obtain ⟨q, _, rfl⟩ := List.mem_map.1 hv; exact valD_inI x.2
    have hctl : ct.length ≤ 331776 := by
      have h1 := HLE.out
      have h2 := congrArg List.length hS
      have h3 := List.Nodup.length_le_of_subset m5.1 (l₂ := xs.map (hdI d)) (fun t ht => (m5.2.1 t).1 ht)
      simp only [List.length_map] at h2 h3
      omega
    have hxl : xs.length ≤ 331776 := by
      have h2 := congrArg List.length hS
      simp only [List.length_map] at h2
      rw [h2]; exact HLE.out
    have HXL := Lib.hid hxl
    clear hxl
    have HDK := Lib.hid hK
    have HBW := Lib.hid hbW
    have HM3 := Lib.hid m3
    have HM5 := Lib.hid m5
    have HKO := Lib.hid hko
    have HC3 := Lib.hid hct3
    have HDA : Hid (es.toList.map (decE d.1.length) = ct) := decA hct3 m3
    have HCL := Lib.hid hctl
    have hDsz := (Array.getElem?_eq_some_iff.1 hK).1
    have kM : W.cell? ⟨w.heap.size + 1 + 1 + 1, 0, none⟩ = some (.map (some (w.heap.size + 1 + 1))) := cell_of_row _ _ 0 _ _ _ b3
    have hszW : w.heap.size + 1 + 1 + 1 < W.heap.size := (Array.getElem?_eq_some_iff.1 b3).1
    have hesl : es.toList.length = ct.length := by have := congrArg List.length m3; simpa [prs] using this
    have HEL := Lib.hid hesl
    clear m3 m5 hko hK hbW hct3 hctl hfin hesl
    gi_wp2_with ((with_reducible refine wpListIn_range_at _ rfl _ _ _ _ rfl Tryz.underlying99 _ es clock rfl m1 m2 ?_); (intro w6 hwk hb6 hs6))
    obtain ⟨r, hr⟩ : ∃ r, r = W.heap.size := ⟨_, rfl⟩
    rw [← hr] at hwk
    refine wpIn_wide.2 ?_
    go_simp
    rw [← hr]
    have b1' := (hb6.block _ (Array.getElem?_eq_some_iff.1 b1).1).trans b1
    have hrs : r < w6.heap.size := by omega
    have HR := Lib.hid hr
    have HB6 := Lib.hid hb6
    have HS6 := Lib.hid hs6
    clear hr hb6 hs6 kM b3
    go_loopw [9] (fun ov wr => ∃ gone bss, Walk Tryz.prog 100 wr (w.heap.size + 1 + 1) r es clock gone ∧ OutN w6.heap.size wr ov (gone.map (decE d.1.length)) bss ∧ OnlyAt [r] w6 wr)
      (fun _ wr => goneOf wr r es.size)
    case atStart => exact ⟨[], [], hwk, ⟨w6, rfl, OutC.nil w6 w6 (Below.refl _ _)⟩, OnlyAt.refl _ _⟩
    case round =>
      obtain ⟨gone, bss, hwr, hout, hon⟩ := hrel
      have hne : w.heap.size + 1 + 1 ≠ r := by have := HR.out; omega
      go_wp2_with ((with_reducible refine wpList_next_at _ rfl _ rfl 100 (w.heap.size + 1 + 1) r es clock gone rfl hne hwr ?_ ?_))
      · intro hperm
        have hon1 := hon
        have hD7 := (hon.block D (Nat.lt_of_lt_of_le hDsz HB6.out.size) (by have := HR.out; simp; omega)).trans ((HB6.out.block D hDsz).trans HDK.out)
        have hb67 : Below w.heap.size w wr := OnlyAt.below (bnext HBW.out HB6.out) hon (by intro x hx; have := HR.out; simp at hx; omega)
        have hSO := Lib.hid (iSortC_any w wr _ _ _ (hout.to (by have := HB6.out.size; have := HR.out; have := HBW.out.size; omega) hb67) (by rw [List.length_map, hperm.length_eq, HEL.out]; exact HCL.out))
        have hDn : D ∉ blk u9 := fun hm => by
          obtain ⟨W0, e0, ⟨cs, h1, _⟩, _⟩ := hout
          have := (blk_from h1 D hm).1
          have := HR.out
          omega
        have HDN := Lib.hid hDn
        have HD7 := Lib.hid hD7
        have HP := Lib.hid hperm
        have HOUT := Lib.hid hout
        clear hperm hD7 hDn hb67 hon1 hout hon hwr b1' b1
        go_wp2_with (fail)
        gi_wp2_with (fail)
        refine ⟨trivial, ?_⟩
        refine (callsIn_wide.2 hSO.out).mono ?_
        rintro e w8 ⟨rfl, l', bss', ho, hp, ha, ko⟩
        have hK8 := (ko.block D (Array.getElem?_eq_some_iff.1 HD7.out).1 HDN.out).trans HD7.out
        have HO := Lib.hid ho
        have hpc : l'.Perm ct := hp.trans ((HP.out.map _).trans (by rw [HDA.out]))
        have HE8 : Hid (l' = countsN s d db) := counts_fin hS HM5.out hpc ha
        have HI8 : Hid (∀ d' ∈ l', inI d'.2) := fun p hm => by
          have h1 := HM5.out.2.2 p (hpc.mem_iff.1 hm)
          have h2 := List.count_le_length (a := p.1) (l := xs.map (hdI d))
          rw [List.length_map] at h2
          have h3 := HXL.out
          rw [h1]; unfold inI; omega
        have hDE : D ∉ bss'.flatten := fun hm => by
          obtain ⟨⟨cs, _, g2⟩, _⟩ := ho
          obtain ⟨c, T, fr, e⟩ := ElsO.cells g2 D hm
          rw [hK8] at e; cases e
        have HDE := Lib.hid hDE
        clear ho ko hp ha hpc hDE
        gi_wp2_with (fail)
        refine ⟨by simp, .inl ⟨_, _, rfl, run_takeDeferred hK8, ?_⟩⟩
        have hf := OutC.own HO.out (grownBy_putObj' w8 D (.deferred none)) (fun r e => by cases e; exact ⟨Nat.le_trans hB4.size hD, HDN.out, HDE.out⟩)
        obtain ⟨bs, b1, b2⟩ := hf.done HI8.out
        rw [HE8.out] at b1
        exact ⟨_, results_tmp Tryz.results29 _ _ _, _, bs, rfl, b1, b2, hf.below⟩
      · intro e w7 he hlt hw7 ho7
        obtain ⟨t, c, htc, ek, ev⟩ := entry_of HM3.out (by simpa using he)
        have hen := hw7.entry
        obtain ⟨hl3, h3, htin⟩ := HC3.out _ htc
        simp only at hl3 htin
        have hd : decE d.1.length e = (t, c) := by unfold decE; rw [ek, ev, decT_tri hl3 h3]; rfl
        rw [ek, ev] at hen ⊢
        have hout7 := Lib.hid (hout.only ho7 (by simpa using hrs))
        have hon7 := hon.same ho7
        have b17 := (hon7.block _ (Array.getElem?_eq_some_iff.1 b1').1 (by have := HR.out; simp; omega)).trans b1'
        have kQ7 : w7.cell? ⟨w.heap.size + 1, 0, none⟩ = some (.slice a1 n1 c1) := cell_of_row _ _ 0 _ _ _ b17
        have hn1 : n1 = d.1.length := by obtain ⟨_, _, _, e1, e2, _⟩ := HQ1.out.cases; cases e1; exact e2.symm
        have hn3 : n1 ≤ 3 := by omega
        have HW7 := Lib.hid hw7
        have HWR := Lib.hid hwr
        have HON7 := Lib.hid hon7
        have HD := Lib.hid hd
        have HT := Lib.hid htin
        have HL3 := Lib.hid hl3
        have HLT := Lib.hid hlt
        have HN1 := Lib.hid hn1
        clear hw7 hon7 hd htin hl3 hlt hn1 ho7 hout hon hwr htc ek ev he
        unfold tri at hen ⊢
        obtain ⟨x0, h0⟩ : ∃ x, x = t.getD 0 0 := ⟨_, rfl⟩
        obtain ⟨x1, h1⟩ : ∃ x, x = t.getD 1 0 := ⟨_, rfl⟩
        obtain ⟨x2, h2⟩ : ∃ x, x = t.getD 2 0 := ⟨_, rfl⟩
        rw [← h0, ← h1, ← h2] at hen ⊢
        have H0 := Lib.hid h0
        have H1 := Lib.hid h1
        have H2 := Lib.hid h2
        have kQ8 := cellk (below_alloc w7 (.cells #[.int .i64 x0, .int .i64 x1, .int .i64 x2] 100)) kQ7
        have c0 : (0 : Int) ≤ n1 := by omega
        have c3 : (n1 : Int) ≤ 3 := by omega
        clear h0 h1 h2
        go_wp2_with (fail)
        have HIX : Hid (Ints (w7.alloc (.cells #[.int .i64 x0, .int .i64 x1, .int .i64 x2] 100)) (.slice (some ⟨w7.heap.size, 0, none⟩) n1 3) t) := by
          refine ⟨HT.out, .inr ⟨w7.heap.size, 0, n1, 3, rfl, by have := HN1.out; have := HL3.out; omega, hn3, by decide, by simp, fun j hj => ?_⟩⟩
          rw [Nat.zero_add, World.cell?_alloc_at _ _ _ _ rfl]
          have : j = 0 ∨ j = 1 ∨ j = 2 := by omega
          rcases this with rfl | rfl | rfl
          · simp [H0.out]
          · simp [H1.out]
          · simp [H2.out]
        refine (iClone_any _ _ t HIX.out (by have := HL3.out; omega)).mono ?_
        rintro e' w9 ⟨vb, bsb, rfl, hob, hfb, hbb⟩
        obtain ⟨va, vn, vc, rfl⟩ := hob.1.shape
        have hb9 : Below w7.heap.size w7 w9 := bnext (below_alloc w7 _) hbb
        have HB9 := Lib.hid hb9
        have HOB := Lib.hid hob
        have HFB := Lib.hid (hfb.wide (by simp) (Nat.le_refl _) : Fresh w7 w9 bsb)
        obtain ⟨W0, hW0, hoc⟩ := hout7.out
        have hoc' := hoc
        obtain ⟨⟨cs, hc1, hc2⟩, _⟩ := hoc'
        have HW0 := Lib.hid hW0
        have HOC := Lib.hid hoc
        have HC1 := Lib.hid hc1
        have HC2 := Lib.hid hc2
        obtain ⟨ov, hov⟩ : ∃ ov, ov = u9 := ⟨_, rfl⟩
        rw [← hov] at HOC HC1 ⊢
        obtain ⟨L, hL⟩ : ∃ L, L = gone.map (decE d.1.length) := ⟨_, rfl⟩
        rw [← hL] at HOC HC1 HC2
        have HL := Lib.hid hL
        have hN : L.length + 1 ≤ 1099511627776 := by
          have := HLT.out; have := HEL.out; have := HCL.out; rw [hL]; simp at *; omega
        clear hoc hc1 hc2 hW0 hob hfb hbb hb9 hout7 hov hL kQ8 kQ7 hen c0 c3
        go_wp2_with (at_builtin; refine wpList_app1D rfl (.tmp 34) (.tmp 42) 51 rfl 98 (.agg #[.slice none 0 0, .int .i64 0]) 2 32 Tryz.underlying51 (by kernel_rfl) (by decide) (by decide) (by rfl) ov L.length cs rfl (HC1.out.grow HB9.out) [.slice va vn vc, .int .i64 c] rfl (by simp [Value.oneCell']) (by first | rfl | (simp; rfl)) hN ?_)
        intro v' w10 hown' ko hbl
        have HNEW := Lib.hid (OutN.step HW0.out HOC.out HC1.out HC2.out HB9.out HOB.out HFB.out hown' ko hbl)
        have hbf := blk_from HC1.out
        have hnot : ∀ k, k < w6.heap.size → k ∉ blk ov := fun k hk hm => by have := (hbf k hm).1; have := HW0.out; omega
        have hkeep : ∀ k, k < w6.heap.size → w10.heap[k]? = w7.heap[k]? := fun k hk =>
          (ko.block k (by have := HB9.out.size; have := HON7.out.size; omega) (hnot k hk)).trans (HB9.out.block k (by have := HON7.out.size; omega))
        have hnew : Walk Tryz.prog 100 w10 (w.heap.size + 1 + 1) r es clock (gone ++ [e]) := HW7.out.grow (hkeep _ (by have := HR.out; omega)) (hkeep _ hrs)
        have HWN := Lib.hid hnew
        have hon10 := Lib.hid ((HON7.out.same (OnlyAt.ofBelow _ HB9.out)).above ko (fun b hm => by have := (hbf b hm).1; have := HW0.out; omega))
        clear hown' ko hbl hbf hnot hkeep hnew
        go_wp2_with (fail)
        refine ⟨⟨gone ++ [e], bss ++ [bsb], HWN.out, ?_, hon10.out⟩, ?_⟩
        · rw [List.map_append, ← HL.out]
          simp only [List.map_cons, List.map_nil, HD.out]
          exact HNEW.out
        · rw [HWN.out.meas, HWR.out.meas]
          have := HLT.out
          simp at *
          omega
  case stop =>
    rintro D c pre W hD hS h hK
    exact h.elim
end Go.Proofs.YtfojllkkbdpfkaaGreat

/-! I6ans -/
namespace Go.Proofs.YtfojllkkbdpfkaaGreat
open Go Go.Sort Go.RowKit
set_option linter.unusedVariables false

theorem cntParts {w w5 : World} {a : Option Addr} {n c : Nat} {l : List CntD} {bs : List Nat} (h : ROCountedS w5 (.slice a n c) l bs) (hf : Fresh w w5 bs) :
    l.length = n ∧ c ≤ maxLen ∧ ∃ (TS : List Value) (bss : List (List Nat)), TS.length = n ∧ bss.length = n ∧ bss.flatten.Nodup ∧ (∀ b ∈ bss.flatten, w.heap.size ≤ b ∧ b < w5.heap.size) ∧
      ∀ j, j < n → ∃ b off ea em ec, a = some ⟨b, off, none⟩ ∧ w5.cell? ⟨b, off + j * 2, none⟩ = some (.slice ea em ec) ∧ w5.cell? ⟨b, off + j * 2 + 1, none⟩ = some (.int .i64 (l.getD j zC).2) ∧ TS[j]? = some (.slice ea em ec) ∧ OInts w5 (.slice ea em ec) (l.getD j zC).1 (bss.getD j []) := by
  obtain ⟨a', n', c', e, h⟩ := h
  cases e
  rcases h with ⟨a', c', e, hc, rfl, rfl⟩ | ⟨b, off, n', cap, bss, e, h2, h3, h4, h5, rfl, h6⟩
  · cases e
    exact ⟨rfl, hc, [], [], rfl, rfl, List.Pairwise.nil, fun b hb => (by cases hb), fun j hj => by omega⟩
  · cases e
    have hnd := hf.1
    refine ⟨h2, h5, (List.range n).map (fun j => (w5.cell? ⟨b, off + j * 2, none⟩).getD undef), bss, by simp, by rw [h6.1, h2], (List.nodup_cons.1 hnd).2, fun x hx => hf.2 x (by simp [hx]), fun j hj => ?_⟩
    have hjl : j < l.length := by omega
    obtain ⟨cs, k1, k2, ea, em, ec, rfl, hi, ho⟩ := h6.2.2.2 j l[j] (List.getElem?_eq_getElem hjl)
    have q0 : w5.cell? ⟨b, off + j * 2, none⟩ = some (.slice ea em ec) := by have := k2 0 (by omega); simpa using this
    have q1 : w5.cell? ⟨b, off + j * 2 + 1, none⟩ = some (.int .i64 l[j].2) := by have := k2 1 (by omega); rw [← Nat.add_assoc] at this; simpa using this
    have e2 : l.getD j zC = l[j] := by simp [List.getD, List.getElem?_eq_getElem hjl]
    rw [e2]
    refine ⟨b, off, ea, em, ec, rfl, q0, q1, ?_, ho⟩
    rw [List.getElem?_map, List.getElem?_range hj]
    simp [q0]

set_option maxRecDepth 100000 in
set_option maxHeartbeats 8000000 in
theorem iAnswers_of (w : World) (vs vq vdb : Value) (s : List Int) (d : QueryD) (db : List AtomD) (hs : RdSchema w vs s) (hq : RdQuery w vq d) (hl : (countsN s d db).length ≤ 331776)
    (hC : ∀ W, Below w.heap.size w W → Calls Tryz.prog 29 #[vs, vq, vdb] W (fun e w' => ∃ r0 bs0, e = .returned r0 ∧ ROCountedS w' r0 (countsN s d db) bs0 ∧ Fresh W w' bs0 ∧ Below W.heap.size W w')) :
    Calls Tryz.prog 27 #[vs, vq, vdb] w (GaveO (fun w' v' bs => ROIntSS w' v' (answersN s d db) bs) w) := by
  obtain ⟨a0, n0, c0, a1, n1, c1, e, _⟩ := id hq
  subst e
  obtain ⟨sa, sn, sc, e, _⟩ := id hs
  subst e
  have HC := Lib.hid hC
  have HL := Lib.hid hl
  have HAN := Lib.hid (answers_of s d db)
  clear hs hq hC hl
  generalize countsN s d db = L at *
  go_enter Tryz.func27, Tryz.ntmps27
  go_wp2_with fail
  have hb2 : Below w.heap.size w ((w.alloc (.cells #[.slice sa sn sc] 34)).alloc (.cells #[.slice a0 n0 c0, .slice a1 n1 c1] 38)) := ((Below.refl _ _).alloc (Nat.le_refl _) _).alloc (by simp) _
  generalize (w.alloc (.cells #[.slice sa sn sc] 34)).alloc (.cells #[.slice a0 n0 c0, .slice a1 n1 c1] 38) = w2 at *
  have HB2 := Lib.hid hb2
  clear hb2
  refine (HC.out _ HB2.out).mono ?_
  rintro e w5 ⟨r0, bs0, rfl, hro, hfr, hb5⟩
  obtain ⟨a, n, c, rfl, _⟩ := id hro
  obtain ⟨hln, hcap, TS, bss, ht1, ht2, hnd, hrg, hel⟩ := cntParts hro (hfr.wide HB2.out.size (Nat.le_refl _) : Fresh w w5 bs0)
  have HLN := Lib.hid hln
  have HT1 := Lib.hid ht1
  have HT2 := Lib.hid ht2
  have HND := Lib.hid hnd
  have HRG := Lib.hid hrg
  have HEL := Lib.hid hel
  have HB5 := Lib.hid (bnext HB2.out hb5)
  have hn6 : n ≤ 331776 := by rw [← hln]; exact HL.out
  have HNIL : Hid (BuiltC 22 1 w5 w5 (.slice none 0 0) 0 []) := BuiltC.nil 22 1 w5 w5 (Below.refl _ _)
  clear hro hfr hb5 hln ht1 ht2 hnd hrg hel HC
  unfold maxLen at hcap
  go_wp2_with fail
  go_loopw [7, 15] (fun ov iv wr => ∃ i : Nat, i ≤ n ∧ iv = .int .i64 i ∧ Hid (BuiltC 22 1 w5 wr ov i (TS.take i))) (fun _ iv _ => n - (intOf iv).toNat)
  case atStart => exact ⟨0, by omega, rfl, HNIL⟩
  case round =>
    obtain ⟨i, hi, rfl, HP⟩ := hrel
    obtain ⟨ov, hov⟩ : ∃ ov, ov = u7 := ⟨_, rfl⟩
    subst hov
    have hbq := HP.out.2
    by_cases hlt : i < n
    · obtain ⟨b, off, ea, em, ec, rfl, q0, q1, q2, q3⟩ := HEL.out i hlt
      have hi0 : (0 : Int) ≤ i := by omega
      have hi1 : (i : Int) < n := by omega
      have k0 := cellk hbq q0
      have k1 := cellk hbq q1
      have HTK : Hid (TS.take (i + 1) = TS.take i ++ [.slice ea em ec]) := by
        obtain ⟨hi', he⟩ := List.getElem?_eq_some_iff.1 q2
        unfold Hid
        rw [List.take_succ_eq_append_getElem hi', he]
      obtain ⟨z, hz⟩ : ∃ z, z = (L.getD i zC).2 := ⟨_, rfl⟩
      rw [← hz] at k1
      clear hbq q0 q1 q2 q3 hz
      generalize TS.take i = cs at *
      have HGR := Lib.hid (HP.out.grow (below_alloc wr (.cells #[.slice ea em ec, .int .i64 z] 98)))
      go_wp2_with (at_builtin; refine wpList_app1D rfl (.tmp 19) (.tmp 22) 32 rfl 22 (.slice none 0 0) 1 24 Tryz.underlying32 info_IntSl (by decide) (by decide) (by rfl) ov i cs rfl HGR.out [.slice ea em ec] rfl (by simp [Value.oneCell']) (by first | rfl | (simp; rfl)) (by omega) ?_)
      intro v' w3 hown' ko hbl
      have HNEW : Hid (BuiltC 22 1 w5 w3 v' (i + 1) (TS.take (i + 1))) := by unfold Hid; rw [HTK.out]; exact hown'
      clear hown' ko hbl
      go_wp2_with fail
      exact ⟨⟨i + 1, by omega, by simp, HNEW⟩, by simp [intOf]; omega⟩
    · obtain rfl : i = n := by omega
      have hp := HP.out
      rw [List.take_of_length_le (by rw [HT1.out]; exact Nat.le_refl _)] at hp
      have hal : (answersN s d db).length = i := by rw [← HAN.out, List.length_map, HLN.out]
      have hout : OutII 22 w wr ov (answersN s d db) bss := by
        refine ⟨⟨TS, by rw [hal]; exact hp.rebase HB5.out, by rw [HT2.out, hal], fun j x hx => ?_⟩, ?_, fun b hb => ⟨(HRG.out b hb).1, Nat.lt_of_lt_of_le (HRG.out b hb).2 hp.2.size⟩⟩
        · have hj : j < i := by rw [← hal]; exact (List.getElem?_eq_some_iff.1 hx).1
          obtain ⟨b, off, ea, em, ec, _, _, _, h4, h5⟩ := HEL.out j hj
          have hxe : (L.getD j zC).1 = x := by
            rw [← HAN.out, List.getElem?_map] at hx
            have hjL : j < L.length := by rw [HLN.out]; exact hj
            rw [List.getElem?_eq_getElem hjL] at hx
            rw [List.getD_eq_getElem?_getD, List.getElem?_eq_getElem hjL]
            exact Option.some.inj hx
          rw [hxe] at h5
          exact ⟨ea, em, ec, h4, h5.below hp.2⟩
        · rw [List.nodup_append]
          refine ⟨?_, HND.out, fun x hx y hy e => ?_⟩
          · rcases hp.form with ⟨rfl, _⟩ | ⟨g, cap, rfl, _, _⟩ <;> simp [blk]
          · subst e
            have h1 := (cells_blk' hp x hx).1
            have h2 := (HRG.out x hy).2
            omega
      obtain ⟨bs, b1, b2⟩ := hout.done
      have HB1 := Lib.hid b1
      have HB2' := Lib.hid b2
      have HBW := Lib.hid hout.below
      clear hp hout b1 b2 hal hbq
      go_wp2_with fail
      go_ret
      exact ⟨_, bs, rfl, HB1.out, HB2'.out, HBW.out⟩
end Go.Proofs.YtfojllkkbdpfkaaGreat

/-! I6cms -/
namespace Go.Proofs.YtfojllkkbdpfkaaGreat
open Go Go.Sort Go.RowKit
set_option linter.unusedVariables false
theorem answers_3 (s : List Int) (d : QueryD) (db : List AtomD) : ∀ t ∈ answersN s d db, t.length ≤ 3 := by
  intro t ht
  unfold answersN at ht
  obtain ⟨b, hb, rfl⟩ := List.mem_map.1 (((sortL_once _).2 t).1 ht)
  obtain ⟨i, hi⟩ := List.mem_iff_getElem?.1 ((bindings_mem s d db b).1 hb)
  have := (fine_head (bind_fine (List.getElem?_eq_some_iff.1 hi).1).1).2
  unfold tupL
  simpa using this
theorem answers_len (s : List Int) (d : QueryD) (db : List AtomD) : (answersN s d db).length ≤ 331776 := by
  have h1 := List.Nodup.length_le_of_subset (sortL_once ((bindingsN s d db).map (tupL d.1))).1.nodup (fun y hy => ((sortL_once _).2 y).1 hy)
  rw [List.length_map] at h1
  have h2 := bindings_len s d db
  unfold answersN
  omega
theorem answers_m (s : List Int) (d : QueryD) (db : List AtomD) : mIntSS (answersN s d db) ≤ 1048576 := by
  unfold mIntSS
  have h1 := sumL_most (answers_3 s d db)
  have h2 := answers_len s d db
  omega
theorem mCountedS_most {l : List CntD} {n : Nat} (h : ∀ d ∈ l, d.1.length ≤ n) : mCountedS l ≤ l.length * (n + 1) := by
  induction l with
  | nil => simp [mCountedS]
  | cons d l ih =>
    have h1 := ih (fun x hx => h x (List.mem_cons_of_mem _ hx))
    have h2 := h d (List.mem_cons_self ..)
    simp only [mCountedS, List.length_cons, Nat.add_mul, Nat.one_mul]
    omega
theorem counts_3 (s : List Int) (d : QueryD) (db : List AtomD) : ∀ x ∈ countsN s d db, x.1.length ≤ 3 := by
  intro x hx
  refine answers_3 s d db x.1 ?_
  rw [← answers_of]
  exact List.mem_map.2 ⟨x, hx, rfl⟩
theorem counts_len (s : List Int) (d : QueryD) (db : List AtomD) : (countsN s d db).length ≤ 331776 := by
  have := answers_len s d db
  rw [← answers_of, List.length_map] at this
  exact this
theorem counts_m (s : List Int) (d : QueryD) (db : List AtomD) : mCountedS (countsN s d db) ≤ 16777216 ∧ ∀ x ∈ countsN s d db, x.1.length ≤ 1048576 := by
  refine ⟨?_, fun x hx => Nat.le_trans (counts_3 s d db x hx) (by decide)⟩
  have h1 := mCountedS_most (counts_3 s d db)
  have h2 := counts_len s d db
  omega
end Go.Proofs.YtfojllkkbdpfkaaGreat
