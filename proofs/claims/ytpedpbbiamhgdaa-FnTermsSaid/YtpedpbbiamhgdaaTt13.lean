/- FnTerms: the law's last line, where the two terms are one. -/
import Derived.Test.YtpedpbbiamhgdaaDt13
import Derived.Test.YtpedpbbiamhgdaaI13a
import Derived.Test.YtpedpbbiamhgdaaIvars
import Derived.Test.YtpedpbbiamhgdaaSqeq
import Derived.Test.YtpedpbbiamhgdaaI5fd
import Derived.Test.YtpedpbbiamhgdaaWints
import Derived.Test.YtpedpbbiamhgdaaTerm
import Derived.Deep.DeepCutAuto
namespace Go.Proofs.Ytpedpbbiamhgdaa
open Go Go.Sort Go.RowKit
set_option linter.unusedVariables false
set_option linter.unusedSimpArgs false

theorem big13_any (w : World) (a : Option Addr) (len cap : Nat) :
    Calls Try.prog 5 #[.slice a len cap] w (fun e w' => e = .returned (.bool (decide ((1048576 : Int) < (len : Int)))) ∧ w' = w) := by
  go_enter Try.func5, Try.ntmps5
  go_wp2_with fail
  go_ret
  exact ⟨rfl, rfl⟩
set_option maxHeartbeats 4000000 in
theorem wHasI_any (w : World) (v : Value) (l : List Int) (x : Int) (h : Ints w v l) :
    Calls Try.prog 22 #[v, .int .i64 x] w (GaveBool w (decide (x ∈ l))) := by
  obtain ⟨a, n, c, rfl, hl, hn, hm, hcell⟩ := h.cases
  unfold maxLen at hm
  have HC := Lib.hid hcell
  have HL := Lib.hid hl
  clear h hcell hl
  go_enter Try.func22, Try.ntmps22
  go_wp2_with fail
  go_loopw [5] (fun iv wr => ∃ i : Nat, i ≤ n ∧ iv = .int .i64 i ∧ Below w.heap.size w wr ∧ Hid (∀ j, j < i → l.getD j 0 ≠ x)) (fun iv _ => n - (intOf iv).toNat)
  case atStart => exact ⟨0, by omega, rfl, Below.refl _ _, fun j hj => by omega⟩
  case round =>
    obtain ⟨i, hi, rfl, hb, HE⟩ := hrel
    have HB := Lib.hid hb
    by_cases hlt : i < n
    · obtain ⟨b, off, rfl, hbw, hc⟩ := HC.out (by omega)
      have c1 := cellk hb (hc i hlt)
      have hi0 : (0 : Int) ≤ i := by omega
      have hi1 : (i : Int) < n := by omega
      have HMEM : Hid (l.getD i 0 ∈ l) := by
        have h5 : i < l.length := by rw [HL.out]; exact hlt
        unfold Hid
        rw [List.getD_eq_getElem?_getD, List.getElem?_eq_getElem h5]; exact List.getElem_mem h5
      have HN : Hid (l.getD i 0 ≠ x → ∀ j, j < i + 1 → l.getD j 0 ≠ x) := fun h j hj => by
        rcases Nat.lt_or_ge j i with h7 | h7
        · exact HE.out j h7
        · obtain rfl : j = i := by omega
          exact h
      clear hc hbw hb HE
      generalize l.getD i 0 = y at *
      by_cases hy : y = x
      · subst hy
        have HQ : Hid (decide (y ∈ l) = true) := decide_eq_true HMEM.out
        go_wp2_with fail
        go_ret
        exact ⟨ret_b HQ.out.symm, HB.out⟩
      · have q : (y == x) = false := beq_eq_false_iff_ne.2 hy
        have HQ := Lib.hid (HN.out hy)
        clear hy HN
        go_wp2_with fail
        exact ⟨⟨i + 1, by omega, by simp, HB.out, HQ⟩, by simp [intOf]; omega⟩
    · obtain rfl : i = n := by omega
      have HQ : Hid (decide (x ∈ l) = false) := decide_eq_false (fun hmem => by
        obtain ⟨j, hj, e⟩ := List.mem_iff_getElem.1 hmem
        refine HE.out j (by rw [← HL.out]; exact hj) ?_
        rw [List.getD_eq_getElem?_getD, List.getElem?_eq_getElem hj]; exact e)
      clear hb
      go_wp2_with fail
      go_ret
      exact ⟨ret_b HQ.out.symm, HB.out⟩
theorem varsTo_mem13 {d : QueryD} {x : Int} : ∀ {k : Nat}, x ∈ varsTo d k → (∃ a ∈ d.2, x ∈ a.2) ∨ x ∈ d.1
  | 0, h => by cases h
  | k + 1, h => by
    unfold varsTo at h
    split at h
    · rename_i hc
      rcases List.mem_append.1 h with h | h
      · exact varsTo_mem13 h
      · simp at h; subst h
        rw [Bool.or_eq_true, decide_eq_true_eq, decide_eq_true_eq] at hc
        rcases hc with hc | hc
        · left
          unfold bodyVars at hc
          rcases (mem_bv _ _ _).1 hc with h2 | ⟨_, h2⟩
          · cases h2
          · obtain ⟨a, ha, h3⟩ := List.mem_flatMap.1 h2
            exact ⟨a, ha, h3⟩
        · exact .inr hc
    · exact varsTo_mem13 h
theorem swap_gone {l : List Int} {t u : Int} (h : t ≠ u) : t ∉ swapL l t u := by
  unfold swapL
  intro hm
  obtain ⟨y, _, hy⟩ := List.mem_map.1 hm
  split at hy
  · exact h hy.symm
  · rename_i hn; exact hn hy
theorem swpQ_sz (d : QueryD) (t u : Int) : sizeQuery (swpQ d t u) = sizeQuery d := by
  have h1 : (swapL d.1 t u).length = d.1.length := swapL_len _ _ _
  have h2 : ∀ l : List AtomD, sumArgs (l.map (swpA t u)) = sumArgs l := by
    intro l
    induction l with
    | nil => rfl
    | cons a l ih =>
      have e : (swpA t u a).2.length = a.2.length := swapL_len _ _ _
      unfold sumArgs at *
      simp only [List.map_cons, List.sum_cons] at *
      rw [e, ih]
  have h3 : sizeAtomS (d.2.map (swpA t u)) = sizeAtomS d.2 := by unfold sizeAtomS; rw [h2, List.length_map]
  unfold sizeQuery swpQ; dsimp only; rw [h1, h3]
theorem vars_gone {d : QueryD} {t u : Int} (h : t ≠ u) (k : Nat) : t ∉ varsTo (swpQ d t u) k := fun hm => by
  rcases varsTo_mem13 hm with ⟨a, ha, h2⟩ | h2
  · obtain ⟨y, _, rfl⟩ := List.mem_map.1 (show a ∈ d.2.map (swpA t u) from ha)
    exact swap_gone h h2
  · exact swap_gone h h2
theorem lessB_asym13 : ∀ {a b : List Int}, lessB a b = true → lessB b a = false
  | [], [], h => by cases h
  | [], _ :: _, _ => rfl
  | _ :: _, [], h => by cases h
  | x :: a, y :: b, h => by
    unfold lessB at h ⊢
    by_cases e : x = y
    · subst e
      rw [if_pos rfl] at h ⊢
      exact lessB_asym13 h
    · rw [if_neg e] at h
      rw [if_neg (fun e2 => e e2.symm)]
      have := of_decide_eq_true h
      exact decide_eq_false (by omega)
theorem lessA_asym13 {r r' : Int} {l l' : List Int} (h : lessAtomB r l r' l' = true) : lessAtomB r' l' r l = false := by
  unfold lessAtomB at h ⊢
  by_cases e : r = r'
  · subst e
    rw [if_pos rfl] at h ⊢
    exact lessB_asym13 h
  · rw [if_neg e] at h
    rw [if_neg (fun e2 => e e2.symm)]
    have := of_decide_eq_true h
    exact decide_eq_false (by omega)
theorem conOf_in13 {t : Int} (h : inI t) : inI (conOf t) := by
  unfold conOf conB; unfold inI at *
  split
  · rename_i hc; have := of_decide_eq_true hc; omega
  · omega
theorem mkCon_in13 {n : Int} (h : inI n) : inI (mkCon n) := by
  unfold mkCon Go.Proofs.Ytpedpbbiamhgdaa.inB; unfold inI at *
  split
  · rename_i hc; have := of_decide_eq_true hc; omega
  · omega
theorem term_var13 (t : Int) : termB t = (varB t || decide (0 ≤ conOf t)) := by
  unfold termB conOf
  cases h : conB t with
  | true =>
    have := of_decide_eq_true h
    rw [if_pos rfl, decide_eq_true (by omega : (0 : Int) ≤ -1 - t)]
  | false => rfl
theorem conOf_mk13 {n : Int} (h : mkCon n ≠ 0) : conOf (mkCon n) = n := by
  unfold mkCon at h ⊢
  split at h
  · rename_i hc
    rw [if_pos hc]
    have h2 := of_decide_eq_true hc
    unfold conOf conB
    rw [if_pos (decide_eq_true (by omega))]; omega
  · exact absurd rfl h

/-- The operations of the region n. -/
def findR (n : Nat) : Go.Code → Option (Array Oper)
  | .region id ops _ => if id = n then some ops else none
  | .seq x y => match findR n x with
    | some o => some o
    | none => findR n y
  | .cond _ x y => match findR n x with
    | some o => some o
    | none => findR n y
  | .block _ x => findR n x
  | .loop x => findR n x
  | _ => none

set_option maxRecDepth 100000 in
set_option maxHeartbeats 16000000 in
theorem last_eq {Q : Exit → Act → World → Prop} {ops : Array Oper} {w13 : World} {f6 f9 f10 f12 f13 f14 f15 : Nat} {qa qa' xa xa' pa pa' ua ya sa za : Option Addr} {qn qc qn' qc' xn xc xn' xc' pn pc pn' pc' un uc yn yc sn sc zn zc : Nat} {d p : QueryD} {l s u2 y2 z2 : List Int} {a b u1 y1 z1 : Int} {lv : Value} {x0 x1 x2 x3 x4 x5 j16 j17 j18 j19 j20 j21 j22 j23 j24 j25 j26 j27 j28 j29 j30 j31 j32 j33 j34 j35 j36 j37 j38 j39 j40 j41 j42 j43 j44 j45 j46 j47 j48 j49 j50 j51 j52 j53 j54 j55 j56 j57 j58 j59 j60 j61 j62 j63 j64 j65 j66 j67 j68 j69 j70 j71 j72 j73 j74 j75 j76 j77 j78 j79 j80 j81 j82 j83 j84 j85 j86 j87 j88 j89 j90 j91 j92 j93 j94 j95 j96 j97 j98 j99 j100 j101 j102 j103 j104 j105 j106 j107 j108 j109 j110 j111 j112 j113 j114 j115 j116 j117 j118 j119 j120 j121 j122 j123 j124 j125 j126 j127 j128 j129 j130 j131 j132 j133 j134 j135 j136 j137 j138 j139 j140 j141 j142 j143 j144 j145 j146 j147 j148 j149 j150 j151 j152 j153 j154 j155 j156 j157 j158 : Value}
    (hops : findR 13 (Try.f3.body.getD .skip) = some ops) (hab : a = b)
    (HCE : Hid (∀ W, Below w13.heap.size w13 W → (W.cell? ⟨f6, 0, none⟩ = some (.slice qa qn qc) ∧ W.cell? ⟨f6, 1, none⟩ = some (.slice qa' qn' qc') ∧ RdQuery W (.agg #[.slice qa qn qc, .slice qa' qn' qc']) d) ∧ (W.cell? ⟨f9, 0, none⟩ = some (.slice xa xn xc) ∧ W.cell? ⟨f9, 1, none⟩ = some (.slice xa' xn' xc') ∧ RdQuery W (.agg #[.slice xa xn xc, .slice xa' xn' xc']) (swpQ d a b)) ∧ (W.cell? ⟨f10, 0, none⟩ = some (.slice pa pn pc) ∧ W.cell? ⟨f10, 1, none⟩ = some (.slice pa' pn' pc') ∧ RdQuery W (.agg #[.slice pa pn pc, .slice pa' pn' pc']) p ∧ Ints W lv l) ∧ (W.cell? ⟨f12, 0, none⟩ = some (.int .i64 u1) ∧ W.cell? ⟨f12, 1, none⟩ = some (.slice ua un uc) ∧ W.cell? ⟨f13, 0, none⟩ = some (.int .i64 y1) ∧ W.cell? ⟨f13, 1, none⟩ = some (.slice ya yn yc) ∧ Ints W (.slice ua un uc) u2 ∧ Ints W (.slice ya yn yc) y2)))
    (HCF : Hid (∀ W, Below w13.heap.size w13 W → W.cell? ⟨f14, 0, none⟩ = some (.slice sa sn sc) ∧ W.cell? ⟨f15, 0, none⟩ = some (.int .i64 z1) ∧ W.cell? ⟨f15, 1, none⟩ = some (.slice za zn zc) ∧ Ints W (.slice sa sn sc) s ∧ Ints W (.slice za zn zc) z2)) (HB4 : inI b) (HQZ : sizeQuery d ≤ 1048576) (HPZ : sizeQuery p ≤ 1048576 ∧ p.1.length ≤ 1048576 ∧ sizeAtomS p.2 ≤ 1048576)
    (hQ : ∀ a' w', a'.defers = [] → a'.tmps[2]? = some (.bool true) → Below w13.heap.size w13 w' → Q .normal a' w') :
    (Go.Code.region 13 ops true).wp Try.prog Q { tmps := #[x0, x1, x2, x3, x4, x5, .pointer (some ⟨f6, 0, none⟩), .int .i64 a, .int .i64 b, .pointer (some ⟨f9, 0, none⟩), .pointer (some ⟨f10, 0, none⟩), lv, .pointer (some ⟨f12, 0, none⟩), .pointer (some ⟨f13, 0, none⟩), .pointer (some ⟨f14, 0, none⟩), .pointer (some ⟨f15, 0, none⟩), j16, j17, j18, j19, j20, j21, j22, j23, j24, j25, j26, j27, j28, j29, j30, j31, j32, j33, j34, j35, j36, j37, j38, j39, j40, j41, j42, j43, j44, j45, j46, j47, j48, j49, j50, j51, j52, j53, j54, j55, j56, j57, j58, j59, j60, j61, j62, j63, j64, j65, j66, j67, j68, j69, j70, j71, j72, j73, j74, j75, j76, j77, j78, j79, j80, j81, j82, j83, j84, j85, j86, j87, j88, j89, j90, j91, j92, j93, j94, j95, j96, j97, j98, j99, j100, j101, j102, j103, j104, j105, j106, j107, j108, j109, j110, j111, j112, j113, j114, j115, j116, j117, j118, j119, j120, j121, j122, j123, j124, j125, j126, j127, j128, j129, j130, j131, j132, j133, j134, j135, j136, j137, j138, j139, j140, j141, j142, j143, j144, j145, j146, j147, j148, j149, j150, j151, j152, j153, j154, j155, j156, j157, j158], defers := [] } w13 := by
  rw [show findR 13 (Try.f3.body.getD .skip) = some _ from rfl] at hops
  cases hops
  dsimp only
  have hdz1 : d.1.length ≤ 1048576 := by have := HQZ; unfold sizeQuery at this; omega
  have hdz2 : sizeAtomS d.2 ≤ 1048576 := by have := HQZ; unfold sizeQuery at this; omega
  have hxz : sizeQuery (swpQ d a b) ≤ 1048576 := by rw [swpQ_sz]; exact HQZ
  have K1 := Lib.hid (fun W (h : Below w13.heap.size w13 W) => sReplace_any W _ d a b (HCE.out W h).1.2.2 HB4 hdz1 hdz2)
  have K2 := Lib.hid (fun W v v' e e' (h : RdQuery W v e) (h' : RdQuery W v' e') => sEqualQueries_any W v v' e e' h h')
  have K3 := Lib.hid (fun W (h : Below w13.heap.size w13 W) => iVarsOf_any W _ (swpQ d a b) (HCE.out W h).2.1.2.2 hxz)
  have K4 := Lib.hid (fun W v e (h : Ints W v e) => wHasI_any W v e a h)
  have K5 := Lib.hid (fun W (h : Below w13.heap.size w13 W) => iRenameQuery_any W _ lv p l (HCE.out W h).2.2.1.2.2.1 (HCE.out W h).2.2.1.2.2.2 HPZ.1)
  have K6 := Lib.hid (fun W (h : Below w13.heap.size w13 W) => sRenameQuery_any W _ lv p l (HCE.out W h).2.2.1.2.2.1 (HCE.out W h).2.2.1.2.2.2 HPZ.2.1 HPZ.2.2)
  have K8 := Lib.hid (fun W (h : Below w13.heap.size w13 W) => iVarsOf_any W _ p (HCE.out W h).2.2.1.2.2.1 HPZ.1)
  have K9 := Lib.hid (fun W (h : Below w13.heap.size w13 W) => sVarsOf_any W _ p (HCE.out W h).2.2.1.2.2.1 HPZ.2.2)
  have K10 := Lib.hid (fun W v v' e e' (h : Ints W v e) (h' : Ints W v' e') => wInts_any W v v' e e' h h')
  have K11 := Lib.hid (fun W (h : Below w13.heap.size w13 W) => iLessAtom_any W u1 y1 _ _ u2 y2 (HCE.out W h).2.2.2.2.2.2.2.1 (HCE.out W h).2.2.2.2.2.2.2.2)
  have K12 := Lib.hid (fun W (h : Below w13.heap.size w13 W) => sLessAtom_any W u1 y1 _ _ u2 y2 (HCE.out W h).2.2.2.2.2.2.2.1 (HCE.out W h).2.2.2.2.2.2.2.2)
  have K14 := Lib.hid (fun W (h : Below w13.heap.size w13 W) => iLessAtom_any W y1 u1 _ _ y2 u2 (HCE.out W h).2.2.2.2.2.2.2.2 (HCE.out W h).2.2.2.2.2.2.2.1)
  have K15 := Lib.hid (fun W (h : Below w13.heap.size w13 W) => iIsAtom_any W z1 _ _ s z2 (HCF.out W h).2.2.2.1 (HCF.out W h).2.2.2.2)
  have K16 := Lib.hid (fun W (h : Below w13.heap.size w13 W) => sIsAtom_any W z1 _ _ s z2 (HCF.out W h).2.2.2.1 (HCF.out W h).2.2.2.2)
  have K17 := Lib.hid (fun W (h : Below w13.heap.size w13 W) => iIsSchema_any W _ s (HCF.out W h).2.2.2.1)
  have K18 := Lib.hid (fun W (h : Below w13.heap.size w13 W) => sIsSchema_any W _ s (HCF.out W h).2.2.2.1)
  obtain ⟨ib, hib⟩ : ∃ x, isAtomB s z1 z2 = x := ⟨_, rfl⟩
  obtain ⟨sb, hsb⟩ : ∃ x, isSchemaB s = x := ⟨_, rfl⟩
  obtain ⟨lb, hlb⟩ : ∃ x, lessAtomB u1 u2 y1 y2 = x := ⟨_, rfl⟩
  obtain ⟨lc, hlc⟩ : ∃ x, lessAtomB y1 y2 u1 u2 = x := ⟨_, rfl⟩
  have hasym : lb = true → lc = false := fun h => by rw [← hlc]; exact lessA_asym13 (by rw [hlb]; exact h)
  rw [hib] at K15 K16
  rw [hsb] at K17 K18
  rw [hlb] at K11 K12
  rw [hlc] at K14
  have HGO : Hid (a ≠ b → decide (a ∈ varsTo (swpQ d a b) 20) = false) := fun h => decide_eq_false (vars_gone h 20)
  clear hib hsb hlb hlc hdz1 hdz2 hxz
  have HSW : Hid (∀ w', Below w13.heap.size w13 w' → w'.cell? ⟨f6, 0, none⟩ = some (.slice qa qn qc) ∧ w'.cell? ⟨f6, 1, none⟩ = some (.slice qa' qn' qc') ∧ w'.cell? ⟨f9, 0, none⟩ = some (.slice xa xn xc) ∧ w'.cell? ⟨f9, 1, none⟩ = some (.slice xa' xn' xc') ∧ w'.cell? ⟨f10, 0, none⟩ = some (.slice pa pn pc) ∧ w'.cell? ⟨f10, 1, none⟩ = some (.slice pa' pn' pc') ∧ w'.cell? ⟨f12, 0, none⟩ = some (.int .i64 u1) ∧ w'.cell? ⟨f12, 1, none⟩ = some (.slice ua un uc) ∧ w'.cell? ⟨f13, 0, none⟩ = some (.int .i64 y1) ∧ w'.cell? ⟨f13, 1, none⟩ = some (.slice ya yn yc) ∧ w'.cell? ⟨f14, 0, none⟩ = some (.slice sa sn sc) ∧ w'.cell? ⟨f15, 0, none⟩ = some (.int .i64 z1) ∧ w'.cell? ⟨f15, 1, none⟩ = some (.slice za zn zc) ∧ Below w13.heap.size w13 w') := fun W h => ⟨(HCE.out W h).1.1, (HCE.out W h).1.2.1, (HCE.out W h).2.1.1, (HCE.out W h).2.1.2.1, (HCE.out W h).2.2.1.1, (HCE.out W h).2.2.1.2.1, (HCE.out W h).2.2.2.1, (HCE.out W h).2.2.2.2.1, (HCE.out W h).2.2.2.2.2.1, (HCE.out W h).2.2.2.2.2.2.1, (HCF.out W h).1, (HCF.out W h).2.1, (HCF.out W h).2.2.1, h⟩
  have HD0 := Lib.hid (Below.refl w13.heap.size w13).drew
  subst hab
  have q0 : (a == a) = true := by simp
  have q0' : decide (a = a) = true := by simp
  have ql : (lb == lb) = true := by simp
  clear HGO K3 K4
  (try simp only [List.append_eq, List.cons_append, List.nil_append])
  refine wp_region_noPanic ?_
  refine wp_region_held_drew (S := (fun w' => w'.cell? ⟨f6, 0, none⟩ = some (.slice qa qn qc) ∧ w'.cell? ⟨f6, 1, none⟩ = some (.slice qa' qn' qc') ∧ w'.cell? ⟨f9, 0, none⟩ = some (.slice xa xn xc) ∧ w'.cell? ⟨f9, 1, none⟩ = some (.slice xa' xn' xc') ∧ w'.cell? ⟨f10, 0, none⟩ = some (.slice pa pn pc) ∧ w'.cell? ⟨f10, 1, none⟩ = some (.slice pa' pn' pc') ∧ w'.cell? ⟨f12, 0, none⟩ = some (.int .i64 u1) ∧ w'.cell? ⟨f12, 1, none⟩ = some (.slice ua un uc) ∧ w'.cell? ⟨f13, 0, none⟩ = some (.int .i64 y1) ∧ w'.cell? ⟨f13, 1, none⟩ = some (.slice ya yn yc) ∧ w'.cell? ⟨f14, 0, none⟩ = some (.slice sa sn sc) ∧ w'.cell? ⟨f15, 0, none⟩ = some (.int .i64 z1) ∧ w'.cell? ⟨f15, 1, none⟩ = some (.slice za zn zc) ∧ Below w13.heap.size w13 w')) (by kernel_rfl) ?_ (fun hHeld => ?_)
  · exact HSW.out _ HD0.out
  refine wpAnyH_take (i := 0) (oi := { dst := some 89, op := _, type := _, pos := _, after := _, guard := none }) (v := ?_) rfl (by kernel_rfl) (by kernel_rfl) (by kernel_rfl) (fun _ _ _ h => h) (Or.inl ⟨by rfl, ?_⟩) (by assumption) ?_
  rotate_left
  · (intro w hSw; (try dsimp only at hSw); go_simp <;> with_reducible rfl)
  (try simp only [Act.put, List.setIfInBounds_toArray, List.set_cons_zero, List.set_cons_succ])
  refine wpAnyH_take (i := 1) (oi := { dst := some 90, op := _, type := _, pos := _, after := _, guard := none }) (v := ?_) rfl (by kernel_rfl) (by kernel_rfl) (by kernel_rfl) (fun _ _ _ h => h) (Or.inl ⟨by rfl, ?_⟩) (by assumption) ?_
  rotate_left
  · (intro w hSw; (try dsimp only at hSw); go_simp <;> with_reducible rfl)
  (try simp only [Act.put, List.setIfInBounds_toArray, List.set_cons_zero, List.set_cons_succ])
  refine wpAnyH_take (i := 2) (oi := { dst := some 91, op := _, type := _, pos := _, after := _, guard := none }) (v := ?_) rfl (by kernel_rfl) (by kernel_rfl) (by kernel_rfl) (fun _ _ _ h => h) (Or.inl ⟨by rfl, ?_⟩) (by assumption) ?_
  rotate_left
  · (intro w hSw; (try dsimp only at hSw); go_simp <;> with_reducible rfl)
  (try simp only [Act.put, List.setIfInBounds_toArray, List.set_cons_zero, List.set_cons_succ])
  refine wpAnyH_take (i := 3) (oi := { dst := some 92, op := _, type := _, pos := _, after := _, guard := none }) (v := ?_) rfl (by kernel_rfl) (by kernel_rfl) (by kernel_rfl) (fun _ _ _ h => h) (Or.inl ⟨by rfl, ?_⟩) (by assumption) ?_
  rotate_left
  · (intro w hSw; (try dsimp only at hSw); go_simp <;> with_reducible rfl)
  (try simp only [Act.put, List.setIfInBounds_toArray, List.set_cons_zero, List.set_cons_succ])
  refine wpAnyH_ready (rs := [4]) (by kernel_rfl) (by simp) ?_
  refine AllReadyH.cons (o := { dst := some 93, op := _, type := _, pos := _, after := _, guard := none }) rfl (fun K hK => ?_) ?_
  · go_simp
    go_at_call 21
    refine (K1.out _ HD0.out).mono ?_
    rintro e wr1 ⟨rr, rfl, hrr, hb⟩
    have HD1 := Lib.hid (bnext HD0.out hb)
    clear hb
    refine hK.out _ _ ?_ (fun hHeld => ?_)
    · exact HSW.out _ HD1.out
    clear hK K
    (try simp only [Act.put, List.setIfInBounds_toArray, List.set_cons_zero, List.set_cons_succ])
    refine wpAnyH_ready (rs := [5]) (by kernel_rfl) (by simp) ?_
    refine AllReadyH.cons (o := { dst := some 94, op := _, type := _, pos := _, after := _, guard := none }) rfl (fun K hK => ?_) ?_
    · go_simp
      go_at_call 20
      refine (K2.out _ _ _ (swpQ d a a) (swpQ d a a) (HCE.out _ HD1.out).2.1.2.2 hrr).mono ?_
      rintro e wr2 ⟨rfl, hb⟩
      rw [decide_eq_true rfl]
      have HD2 := Lib.hid (bnext HD1.out hb)
      clear hb
      refine hK.out _ _ ?_ (fun hHeld => ?_)
      · exact HSW.out _ HD2.out
      clear hK K
      (try simp only [Act.put, List.setIfInBounds_toArray, List.set_cons_zero, List.set_cons_succ])
      refine wpAnyH_take (i := 6) (oi := { dst := some 95, op := _, type := _, pos := _, after := _, guard := none }) (v := ?_) rfl (by kernel_rfl) (by kernel_rfl) (by kernel_rfl) (fun _ _ _ h => h) (Or.inl ⟨by rfl, ?_⟩) (by assumption) ?_
      rotate_left
      · (intro w hSw; (try dsimp only at hSw); go_simp <;> with_reducible rfl)
      (try simp only [Act.put, List.setIfInBounds_toArray, List.set_cons_zero, List.set_cons_succ])
      refine wpAnyH_take (i := 7) (oi := { dst := some 96, op := _, type := _, pos := _, after := _, guard := some (6, true) }) (v := ?_) rfl (by kernel_rfl) (by kernel_rfl) (by kernel_rfl) (fun _ _ _ h => h) (Or.inl ⟨by rfl, ?_⟩) (by assumption) ?_
      rotate_left
      · (intro w hSw; (try dsimp only at hSw); go_simp <;> with_reducible rfl)
      (try simp only [Act.put, List.setIfInBounds_toArray, List.set_cons_zero, List.set_cons_succ])
      refine wpAnyH_take (i := 8) (oi := { dst := some 97, op := _, type := _, pos := _, after := _, guard := some (6, true) }) (v := ?_) rfl (by kernel_rfl) (by kernel_rfl) (by kernel_rfl) (fun _ _ _ h => h) (Or.inl ⟨by rfl, ?_⟩) (by assumption) ?_
      rotate_left
      · (intro w hSw; (try dsimp only at hSw); go_simp <;> with_reducible rfl)
      (try simp only [Act.put, List.setIfInBounds_toArray, List.set_cons_zero, List.set_cons_succ])
      refine wpAnyH_take (i := 9) (oi := { dst := some 98, op := _, type := _, pos := _, after := _, guard := some (6, true) }) (v := ?_) rfl (by kernel_rfl) (by kernel_rfl) (by kernel_rfl) (fun _ _ _ h => h) (Or.inl ⟨by rfl, ?_⟩) (by assumption) ?_
      rotate_left
      · (intro w hSw; (try dsimp only at hSw); go_simp <;> with_reducible rfl)
      (try simp only [Act.put, List.setIfInBounds_toArray, List.set_cons_zero, List.set_cons_succ])
      refine wpAnyH_take (i := 10) (oi := { dst := some 99, op := _, type := _, pos := _, after := _, guard := some (6, true) }) (v := ?_) rfl (by kernel_rfl) (by kernel_rfl) (by kernel_rfl) (fun _ _ _ h => h) (Or.inl ⟨by rfl, ?_⟩) (by assumption) ?_
      rotate_left
      · (intro w hSw; (try dsimp only at hSw); go_simp <;> with_reducible rfl)
      (try simp only [Act.put, List.setIfInBounds_toArray, List.set_cons_zero, List.set_cons_succ])
      refine wpAnyH_take (i := 11) (oi := { dst := some 100, op := _, type := _, pos := _, after := _, guard := some (10, false) }) (v := undef) rfl (by kernel_rfl) (by kernel_rfl) (by kernel_rfl) (fun _ _ _ h => h) (Or.inr ⟨by rfl, rfl⟩) (by assumption) ?_
      (try simp only [Act.put, List.setIfInBounds_toArray, List.set_cons_zero, List.set_cons_succ])
      refine wpAnyH_take (i := 12) (oi := { dst := some 101, op := _, type := _, pos := _, after := _, guard := some (10, false) }) (v := undef) rfl (by kernel_rfl) (by kernel_rfl) (by kernel_rfl) (fun _ _ _ h => h) (Or.inr ⟨by rfl, rfl⟩) (by assumption) ?_
      (try simp only [Act.put, List.setIfInBounds_toArray, List.set_cons_zero, List.set_cons_succ])
      refine wpAnyH_take (i := 13) (oi := { dst := some 102, op := _, type := _, pos := _, after := _, guard := some (10, false) }) (v := undef) rfl (by kernel_rfl) (by kernel_rfl) (by kernel_rfl) (fun _ _ _ h => h) (Or.inr ⟨by rfl, rfl⟩) (by assumption) ?_
      (try simp only [Act.put, List.setIfInBounds_toArray, List.set_cons_zero, List.set_cons_succ])
      refine wpAnyH_take (i := 14) (oi := { dst := some 103, op := _, type := _, pos := _, after := _, guard := some (10, false) }) (v := undef) rfl (by kernel_rfl) (by kernel_rfl) (by kernel_rfl) (fun _ _ _ h => h) (Or.inr ⟨by rfl, rfl⟩) (by assumption) ?_
      (try simp only [Act.put, List.setIfInBounds_toArray, List.set_cons_zero, List.set_cons_succ])
      refine wpAnyH_take (i := 15) (oi := { dst := some 104, op := _, type := _, pos := _, after := _, guard := some (10, false) }) (v := undef) rfl (by kernel_rfl) (by kernel_rfl) (by kernel_rfl) (fun _ _ _ h => h) (Or.inr ⟨by rfl, rfl⟩) (by assumption) ?_
      (try simp only [Act.put, List.setIfInBounds_toArray, List.set_cons_zero, List.set_cons_succ])
      refine wpAnyH_take (i := 16) (oi := { dst := some 105, op := _, type := _, pos := _, after := _, guard := some (6, true) }) (v := ?_) rfl (by kernel_rfl) (by kernel_rfl) (by kernel_rfl) (fun _ _ _ h => h) (Or.inl ⟨by rfl, ?_⟩) (by assumption) ?_
      rotate_left
      · (intro w hSw; (try dsimp only at hSw); go_simp <;> with_reducible rfl)
      (try simp only [Act.put, List.setIfInBounds_toArray, List.set_cons_zero, List.set_cons_succ])
      refine wpAnyH_take (i := 17) (oi := { dst := some 106, op := _, type := _, pos := _, after := _, guard := none }) (v := ?_) rfl (by kernel_rfl) (by kernel_rfl) (by kernel_rfl) (fun _ _ _ h => h) (Or.inl ⟨by rfl, ?_⟩) (by assumption) ?_
      rotate_left
      · (intro w hSw; (try dsimp only at hSw); go_simp <;> with_reducible rfl)
      (try simp only [Act.put, List.setIfInBounds_toArray, List.set_cons_zero, List.set_cons_succ])
      refine wpAnyH_take (i := 18) (oi := { dst := some 107, op := _, type := _, pos := _, after := _, guard := none }) (v := ?_) rfl (by kernel_rfl) (by kernel_rfl) (by kernel_rfl) (fun _ _ _ h => h) (Or.inl ⟨by rfl, ?_⟩) (by assumption) ?_
      rotate_left
      · (intro w hSw; (try dsimp only at hSw); go_simp <;> with_reducible rfl)
      (try simp only [Act.put, List.setIfInBounds_toArray, List.set_cons_zero, List.set_cons_succ])
      refine wpAnyH_take (i := 19) (oi := { dst := some 108, op := _, type := _, pos := _, after := _, guard := some (18, true) }) (v := ?_) rfl (by kernel_rfl) (by kernel_rfl) (by kernel_rfl) (fun _ _ _ h => h) (Or.inl ⟨by rfl, ?_⟩) (by assumption) ?_
      rotate_left
      · (intro w hSw; (try dsimp only at hSw); go_simp <;> with_reducible rfl)
      (try simp only [Act.put, List.setIfInBounds_toArray, List.set_cons_zero, List.set_cons_succ])
      refine wpAnyH_take (i := 20) (oi := { dst := some 109, op := _, type := _, pos := _, after := _, guard := some (18, true) }) (v := ?_) rfl (by kernel_rfl) (by kernel_rfl) (by kernel_rfl) (fun _ _ _ h => h) (Or.inl ⟨by rfl, ?_⟩) (by assumption) ?_
      rotate_left
      · (intro w hSw; (try dsimp only at hSw); go_simp <;> with_reducible rfl)
      (try simp only [Act.put, List.setIfInBounds_toArray, List.set_cons_zero, List.set_cons_succ])
      refine wpAnyH_take (i := 22) (oi := { dst := some 111, op := _, type := _, pos := _, after := _, guard := some (18, true) }) (v := ?_) rfl (by kernel_rfl) (by kernel_rfl) (by kernel_rfl) (fun _ _ _ h => h) (Or.inl ⟨by rfl, ?_⟩) (by assumption) ?_
      rotate_left
      · (intro w hSw; (try dsimp only at hSw); go_simp <;> with_reducible rfl)
      (try simp only [Act.put, List.setIfInBounds_toArray, List.set_cons_zero, List.set_cons_succ])
      refine wpAnyH_take (i := 23) (oi := { dst := some 112, op := _, type := _, pos := _, after := _, guard := some (18, true) }) (v := ?_) rfl (by kernel_rfl) (by kernel_rfl) (by kernel_rfl) (fun _ _ _ h => h) (Or.inl ⟨by rfl, ?_⟩) (by assumption) ?_
      rotate_left
      · (intro w hSw; (try dsimp only at hSw); go_simp <;> with_reducible rfl)
      (try simp only [Act.put, List.setIfInBounds_toArray, List.set_cons_zero, List.set_cons_succ])
      refine wpAnyH_ready (rs := [21]) (by kernel_rfl) (by simp) ?_
      refine AllReadyH.cons (o := { dst := some 110, op := _, type := _, pos := _, after := _, guard := some (18, true) }) rfl (fun K hK => ?_) ?_
      · go_simp
        go_at_call 24
        refine (K5.out _ HD2.out).mono ?_
        rintro e wr3 ⟨rq, rqb, rfl, hrq, _, hb⟩
        replace hrq := hrq.rd
        have HD3 := Lib.hid (bnext HD2.out hb)
        clear hb
        refine hK.out _ _ ?_ (fun hHeld => ?_)
        · exact HSW.out _ HD3.out
        clear hK K
        (try simp only [Act.put, List.setIfInBounds_toArray, List.set_cons_zero, List.set_cons_succ])
        refine wpAnyH_ready (rs := [24]) (by kernel_rfl) (by simp) ?_
        refine AllReadyH.cons (o := { dst := some 113, op := _, type := _, pos := _, after := _, guard := some (18, true) }) rfl (fun K hK => ?_) ?_
        · go_simp
          go_at_call 25
          refine (K6.out _ HD3.out).mono ?_
          rintro e wr4 ⟨rp, rfl, hrp, hb⟩
          have hrq2 := RdQuery.below hrq hb
          have HD4 := Lib.hid (bnext HD3.out hb)
          clear hb
          refine hK.out _ _ ?_ (fun hHeld => ?_)
          · exact HSW.out _ HD4.out
          clear hK K
          (try simp only [Act.put, List.setIfInBounds_toArray, List.set_cons_zero, List.set_cons_succ])
          refine wpAnyH_ready (rs := [25]) (by kernel_rfl) (by simp) ?_
          refine AllReadyH.cons (o := { dst := some 114, op := _, type := _, pos := _, after := _, guard := some (18, true) }) rfl (fun K hK => ?_) ?_
          · go_simp
            go_at_call 20
            refine (K2.out _ _ _ (renQ p l) (renQ p l) hrq2 hrp).mono ?_
            rintro e wr5 ⟨rfl, hb⟩
            rw [decide_eq_true rfl]
            have HD5 := Lib.hid (bnext HD4.out hb)
            clear hb
            refine hK.out _ _ ?_ (fun hHeld => ?_)
            · exact HSW.out _ HD5.out
            clear hK K
            (try simp only [Act.put, List.setIfInBounds_toArray, List.set_cons_zero, List.set_cons_succ])
            refine wpAnyH_take (i := 26) (oi := { dst := some 115, op := _, type := _, pos := _, after := _, guard := none }) (v := ?_) rfl (by kernel_rfl) (by kernel_rfl) (by kernel_rfl) (fun _ _ _ h => h) (Or.inl ⟨by rfl, ?_⟩) (by assumption) ?_
            rotate_left
            · (intro w hSw; (try dsimp only at hSw); go_simp <;> with_reducible rfl)
            (try simp only [Act.put, List.setIfInBounds_toArray, List.set_cons_zero, List.set_cons_succ])
            refine wpAnyH_take (i := 27) (oi := { dst := some 116, op := _, type := _, pos := _, after := _, guard := none }) (v := ?_) rfl (by kernel_rfl) (by kernel_rfl) (by kernel_rfl) (fun _ _ _ h => h) (Or.inl ⟨by rfl, ?_⟩) (by assumption) ?_
            rotate_left
            · (intro w hSw; (try dsimp only at hSw); go_simp <;> with_reducible rfl)
            (try simp only [Act.put, List.setIfInBounds_toArray, List.set_cons_zero, List.set_cons_succ])
            refine wpAnyH_take (i := 28) (oi := { dst := some 117, op := _, type := _, pos := _, after := _, guard := some (27, true) }) (v := ?_) rfl (by kernel_rfl) (by kernel_rfl) (by kernel_rfl) (fun _ _ _ h => h) (Or.inl ⟨by rfl, ?_⟩) (by assumption) ?_
            rotate_left
            · (intro w hSw; (try dsimp only at hSw); go_simp <;> with_reducible rfl)
            (try simp only [Act.put, List.setIfInBounds_toArray, List.set_cons_zero, List.set_cons_succ])
            refine wpAnyH_take (i := 30) (oi := { dst := some 119, op := _, type := _, pos := _, after := _, guard := some (27, true) }) (v := ?_) rfl (by kernel_rfl) (by kernel_rfl) (by kernel_rfl) (fun _ _ _ h => h) (Or.inl ⟨by rfl, ?_⟩) (by assumption) ?_
            rotate_left
            · (intro w hSw; (try dsimp only at hSw); go_simp <;> with_reducible rfl)
            (try simp only [Act.put, List.setIfInBounds_toArray, List.set_cons_zero, List.set_cons_succ])
            refine wpAnyH_ready (rs := [29]) (by kernel_rfl) (by simp) ?_
            refine AllReadyH.cons (o := { dst := some 118, op := _, type := _, pos := _, after := _, guard := some (27, true) }) rfl (fun K hK => ?_) ?_
            · go_simp
              go_at_call 23
              refine (K8.out _ HD5.out).mono ?_
              rintro e wr6 ⟨rw_, rwb, rfl, ⟨rwa, rwn, rwc, rfl, hrw⟩, _, hb⟩
              have HD6 := Lib.hid (bnext HD5.out hb)
              clear hb
              refine hK.out _ _ ?_ (fun hHeld => ?_)
              · exact HSW.out _ HD6.out
              clear hK K
              (try simp only [Act.put, List.setIfInBounds_toArray, List.set_cons_zero, List.set_cons_succ])
              refine wpAnyH_ready (rs := [31]) (by kernel_rfl) (by simp) ?_
              refine AllReadyH.cons (o := { dst := some 120, op := _, type := _, pos := _, after := _, guard := some (27, true) }) rfl (fun K hK => ?_) ?_
              · go_simp
                go_at_call 27
                refine (K9.out _ HD6.out).mono ?_
                rintro e wr7 ⟨rz, rzb, rfl, hrz, _, hb⟩
                have hrw2 := hrw.1.below hb
                have HD7 := Lib.hid (bnext HD6.out hb)
                clear hb
                refine hK.out _ _ ?_ (fun hHeld => ?_)
                · exact HSW.out _ HD7.out
                clear hK K
                (try simp only [Act.put, List.setIfInBounds_toArray, List.set_cons_zero, List.set_cons_succ])
                refine wpAnyH_ready (rs := [32]) (by kernel_rfl) (by simp) ?_
                refine AllReadyH.cons (o := { dst := some 121, op := _, type := _, pos := _, after := _, guard := some (27, true) }) rfl (fun K hK => ?_) ?_
                · go_simp
                  go_at_call 26
                  refine (K10.out _ _ _ _ _ hrw2 hrz.1).mono ?_
                  rintro e wr8 ⟨rfl, hb⟩
                  rw [decide_eq_true rfl]
                  have HD8 := Lib.hid (bnext HD7.out hb)
                  clear hb
                  refine hK.out _ _ ?_ (fun hHeld => ?_)
                  · exact HSW.out _ HD8.out
                  clear hK K
                  (try simp only [Act.put, List.setIfInBounds_toArray, List.set_cons_zero, List.set_cons_succ])
                  refine wpAnyH_take (i := 33) (oi := { dst := some 122, op := _, type := _, pos := _, after := _, guard := none }) (v := ?_) rfl (by kernel_rfl) (by kernel_rfl) (by kernel_rfl) (fun _ _ _ h => h) (Or.inl ⟨by rfl, ?_⟩) (by assumption) ?_
                  rotate_left
                  · (intro w hSw; (try dsimp only at hSw); go_simp <;> with_reducible rfl)
                  (try simp only [Act.put, List.setIfInBounds_toArray, List.set_cons_zero, List.set_cons_succ])
                  refine wpAnyH_take (i := 34) (oi := { dst := some 123, op := _, type := _, pos := _, after := _, guard := none }) (v := ?_) rfl (by kernel_rfl) (by kernel_rfl) (by kernel_rfl) (fun _ _ _ h => h) (Or.inl ⟨by rfl, ?_⟩) (by assumption) ?_
                  rotate_left
                  · (intro w hSw; (try dsimp only at hSw); go_simp <;> with_reducible rfl)
                  (try simp only [Act.put, List.setIfInBounds_toArray, List.set_cons_zero, List.set_cons_succ])
                  refine wpAnyH_take (i := 35) (oi := { dst := some 124, op := _, type := _, pos := _, after := _, guard := some (34, true) }) (v := ?_) rfl (by kernel_rfl) (by kernel_rfl) (by kernel_rfl) (fun _ _ _ h => h) (Or.inl ⟨by rfl, ?_⟩) (by assumption) ?_
                  rotate_left
                  · (intro w hSw; (try dsimp only at hSw); go_simp <;> with_reducible rfl)
                  (try simp only [Act.put, List.setIfInBounds_toArray, List.set_cons_zero, List.set_cons_succ])
                  refine wpAnyH_take (i := 36) (oi := { dst := some 125, op := _, type := _, pos := _, after := _, guard := some (34, true) }) (v := ?_) rfl (by kernel_rfl) (by kernel_rfl) (by kernel_rfl) (fun _ _ _ h => h) (Or.inl ⟨by rfl, ?_⟩) (by assumption) ?_
                  rotate_left
                  · (intro w hSw; (try dsimp only at hSw); go_simp <;> with_reducible rfl)
                  (try simp only [Act.put, List.setIfInBounds_toArray, List.set_cons_zero, List.set_cons_succ])
                  refine wpAnyH_take (i := 38) (oi := { dst := some 127, op := _, type := _, pos := _, after := _, guard := some (34, true) }) (v := ?_) rfl (by kernel_rfl) (by kernel_rfl) (by kernel_rfl) (fun _ _ _ h => h) (Or.inl ⟨by rfl, ?_⟩) (by assumption) ?_
                  rotate_left
                  · (intro w hSw; (try dsimp only at hSw); go_simp <;> with_reducible rfl)
                  (try simp only [Act.put, List.setIfInBounds_toArray, List.set_cons_zero, List.set_cons_succ])
                  refine wpAnyH_take (i := 39) (oi := { dst := some 128, op := _, type := _, pos := _, after := _, guard := some (34, true) }) (v := ?_) rfl (by kernel_rfl) (by kernel_rfl) (by kernel_rfl) (fun _ _ _ h => h) (Or.inl ⟨by rfl, ?_⟩) (by assumption) ?_
                  rotate_left
                  · (intro w hSw; (try dsimp only at hSw); go_simp <;> with_reducible rfl)
                  (try simp only [Act.put, List.setIfInBounds_toArray, List.set_cons_zero, List.set_cons_succ])
                  refine wpAnyH_ready (rs := [37]) (by kernel_rfl) (by simp) ?_
                  refine AllReadyH.cons (o := { dst := some 126, op := _, type := _, pos := _, after := _, guard := some (34, true) }) rfl (fun K hK => ?_) ?_
                  · go_simp
                    go_at_call 28
                    refine (K11.out _ HD8.out).mono ?_
                    rintro e wr9 ⟨rfl, hb⟩
                    have HD9 := Lib.hid (bnext HD8.out hb)
                    clear hb
                    refine hK.out _ _ ?_ (fun hHeld => ?_)
                    · exact HSW.out _ HD9.out
                    clear hK K
                    (try simp only [Act.put, List.setIfInBounds_toArray, List.set_cons_zero, List.set_cons_succ])
                    refine wpAnyH_ready (rs := [40]) (by kernel_rfl) (by simp) ?_
                    refine AllReadyH.cons (o := { dst := some 129, op := _, type := _, pos := _, after := _, guard := some (34, true) }) rfl (fun K hK => ?_) ?_
                    · go_simp
                      go_at_call 29
                      refine (K12.out _ HD9.out).mono ?_
                      rintro e wr10 ⟨rfl, hb⟩
                      have HD10 := Lib.hid (bnext HD9.out hb)
                      clear hb
                      refine hK.out _ _ ?_ (fun hHeld => ?_)
                      · exact HSW.out _ HD10.out
                      clear hK K
                      (try simp only [Act.put, List.setIfInBounds_toArray, List.set_cons_zero, List.set_cons_succ])
                      refine wpAnyH_take (i := 41) (oi := { dst := some 130, op := _, type := _, pos := _, after := _, guard := some (34, true) }) (v := ?_) rfl (by kernel_rfl) (by kernel_rfl) (by kernel_rfl) (fun _ _ _ h => h) (Or.inl ⟨by rfl, ?_⟩) (by assumption) ?_
                      rotate_left
                      · (intro w hSw; (try dsimp only at hSw); go_simp <;> with_reducible rfl)
                      (try simp only [Act.put, List.setIfInBounds_toArray, List.set_cons_zero, List.set_cons_succ])
                      refine wpAnyH_take (i := 42) (oi := { dst := some 131, op := _, type := _, pos := _, after := _, guard := none }) (v := ?_) rfl (by kernel_rfl) (by kernel_rfl) (by kernel_rfl) (fun _ _ _ h => h) (Or.inl ⟨by rfl, ?_⟩) (by assumption) ?_
                      rotate_left
                      · (intro w hSw; (try dsimp only at hSw); go_simp <;> with_reducible rfl)
                      (try simp only [Act.put, List.setIfInBounds_toArray, List.set_cons_zero, List.set_cons_succ])
                      refine wpAnyH_take (i := 43) (oi := { dst := some 132, op := _, type := _, pos := _, after := _, guard := none }) (v := ?_) rfl (by kernel_rfl) (by kernel_rfl) (by kernel_rfl) (fun _ _ _ h => h) (Or.inl ⟨by rfl, ?_⟩) (by assumption) ?_
                      rotate_left
                      · (intro w hSw; (try dsimp only at hSw); go_simp <;> with_reducible rfl)
                      (try simp only [Act.put, List.setIfInBounds_toArray, List.set_cons_zero, List.set_cons_succ])
                      refine wpAnyH_take (i := 44) (oi := { dst := some 133, op := _, type := _, pos := _, after := _, guard := some (43, true) }) (v := ?_) rfl (by kernel_rfl) (by kernel_rfl) (by kernel_rfl) (fun _ _ _ h => h) (Or.inl ⟨by rfl, ?_⟩) (by assumption) ?_
                      rotate_left
                      · (intro w hSw; (try dsimp only at hSw); go_simp <;> with_reducible rfl)
                      (try simp only [Act.put, List.setIfInBounds_toArray, List.set_cons_zero, List.set_cons_succ])
                      refine wpAnyH_take (i := 45) (oi := { dst := some 134, op := _, type := _, pos := _, after := _, guard := some (43, true) }) (v := ?_) rfl (by kernel_rfl) (by kernel_rfl) (by kernel_rfl) (fun _ _ _ h => h) (Or.inl ⟨by rfl, ?_⟩) (by assumption) ?_
                      rotate_left
                      · (intro w hSw; (try dsimp only at hSw); go_simp <;> with_reducible rfl)
                      (try simp only [Act.put, List.setIfInBounds_toArray, List.set_cons_zero, List.set_cons_succ])
                      refine wpAnyH_ready (rs := [46]) (by kernel_rfl) (by simp) ?_
                      refine AllReadyH.cons (o := { dst := some 135, op := _, type := _, pos := _, after := _, guard := some (43, true) }) rfl (fun K hK => ?_) ?_
                      · go_simp
                        go_at_call 28
                        refine (K11.out _ HD10.out).mono ?_
                        rintro e wr11 ⟨rfl, hb⟩
                        have HD11 := Lib.hid (bnext HD10.out hb)
                        clear hb
                        refine hK.out _ _ ?_ (fun hHeld => ?_)
                        · exact HSW.out _ HD11.out
                        clear hK K
                        (try simp only [Act.put, List.setIfInBounds_toArray, List.set_cons_zero, List.set_cons_succ])
                        refine wpAnyH_take (i := 47) (oi := { dst := some 136, op := _, type := _, pos := _, after := _, guard := some (43, true) }) (v := ?_) rfl (by kernel_rfl) (by kernel_rfl) (by kernel_rfl) (fun _ _ _ h => h) (Or.inl ⟨by rfl, ?_⟩) (by assumption) ?_
                        rotate_left
                        · (intro w hSw; (try dsimp only at hSw); go_simp <;> with_reducible rfl)
                        (try simp only [Act.put, List.setIfInBounds_toArray, List.set_cons_zero, List.set_cons_succ])
                        cases lb with
                        | false =>
                          refine wpAnyH_take (i := 48) (oi := { dst := some 137, op := _, type := _, pos := _, after := _, guard := some (47, true) }) (v := undef) rfl (by kernel_rfl) (by kernel_rfl) (by kernel_rfl) (fun _ _ _ h => h) (Or.inr ⟨by rfl, rfl⟩) (by assumption) ?_
                          (try simp only [Act.put, List.setIfInBounds_toArray, List.set_cons_zero, List.set_cons_succ])
                          refine wpAnyH_take (i := 49) (oi := { dst := some 138, op := _, type := _, pos := _, after := _, guard := some (47, true) }) (v := undef) rfl (by kernel_rfl) (by kernel_rfl) (by kernel_rfl) (fun _ _ _ h => h) (Or.inr ⟨by rfl, rfl⟩) (by assumption) ?_
                          (try simp only [Act.put, List.setIfInBounds_toArray, List.set_cons_zero, List.set_cons_succ])
                          refine wpAnyH_take (i := 50) (oi := { dst := some 139, op := _, type := _, pos := _, after := _, guard := some (47, true) }) (v := undef) rfl (by kernel_rfl) (by kernel_rfl) (by kernel_rfl) (fun _ _ _ h => h) (Or.inr ⟨by rfl, rfl⟩) (by assumption) ?_
                          (try simp only [Act.put, List.setIfInBounds_toArray, List.set_cons_zero, List.set_cons_succ])
                          refine wpAnyH_take (i := 51) (oi := { dst := some 140, op := _, type := _, pos := _, after := _, guard := some (43, true) }) (v := ?_) rfl (by kernel_rfl) (by kernel_rfl) (by kernel_rfl) (fun _ _ _ h => h) (Or.inl ⟨by rfl, ?_⟩) (by assumption) ?_
                          rotate_left
                          · (intro w hSw; (try dsimp only at hSw); go_simp <;> with_reducible rfl)
                          (try simp only [Act.put, List.setIfInBounds_toArray, List.set_cons_zero, List.set_cons_succ])
                          refine wpAnyH_take (i := 52) (oi := { dst := some 141, op := _, type := _, pos := _, after := _, guard := some (43, true) }) (v := ?_) rfl (by kernel_rfl) (by kernel_rfl) (by kernel_rfl) (fun _ _ _ h => h) (Or.inl ⟨by rfl, ?_⟩) (by assumption) ?_
                          rotate_left
                          · (intro w hSw; (try dsimp only at hSw); go_simp <;> with_reducible rfl)
                          (try simp only [Act.put, List.setIfInBounds_toArray, List.set_cons_zero, List.set_cons_succ])
                          refine wpAnyH_take (i := 53) (oi := { dst := some 142, op := _, type := _, pos := _, after := _, guard := none }) (v := ?_) rfl (by kernel_rfl) (by kernel_rfl) (by kernel_rfl) (fun _ _ _ h => h) (Or.inl ⟨by rfl, ?_⟩) (by assumption) ?_
                          rotate_left
                          · (intro w hSw; (try dsimp only at hSw); go_simp <;> with_reducible rfl)
                          (try simp only [Act.put, List.setIfInBounds_toArray, List.set_cons_zero, List.set_cons_succ])
                          refine wpAnyH_take (i := 54) (oi := { dst := some 143, op := _, type := _, pos := _, after := _, guard := none }) (v := ?_) rfl (by kernel_rfl) (by kernel_rfl) (by kernel_rfl) (fun _ _ _ h => h) (Or.inl ⟨by rfl, ?_⟩) (by assumption) ?_
                          rotate_left
                          · (intro w hSw; (try dsimp only at hSw); go_simp <;> with_reducible rfl)
                          (try simp only [Act.put, List.setIfInBounds_toArray, List.set_cons_zero, List.set_cons_succ])
                          refine wpAnyH_take (i := 55) (oi := { dst := some 144, op := _, type := _, pos := _, after := _, guard := some (54, true) }) (v := ?_) rfl (by kernel_rfl) (by kernel_rfl) (by kernel_rfl) (fun _ _ _ h => h) (Or.inl ⟨by rfl, ?_⟩) (by assumption) ?_
                          rotate_left
                          · (intro w hSw; (try dsimp only at hSw); go_simp <;> with_reducible rfl)
                          (try simp only [Act.put, List.setIfInBounds_toArray, List.set_cons_zero, List.set_cons_succ])
                          refine wpAnyH_take (i := 56) (oi := { dst := some 145, op := _, type := _, pos := _, after := _, guard := some (54, true) }) (v := ?_) rfl (by kernel_rfl) (by kernel_rfl) (by kernel_rfl) (fun _ _ _ h => h) (Or.inl ⟨by rfl, ?_⟩) (by assumption) ?_
                          rotate_left
                          · (intro w hSw; (try dsimp only at hSw); go_simp <;> with_reducible rfl)
                          (try simp only [Act.put, List.setIfInBounds_toArray, List.set_cons_zero, List.set_cons_succ])
                          refine wpAnyH_take (i := 58) (oi := { dst := some 147, op := _, type := _, pos := _, after := _, guard := some (54, true) }) (v := ?_) rfl (by kernel_rfl) (by kernel_rfl) (by kernel_rfl) (fun _ _ _ h => h) (Or.inl ⟨by rfl, ?_⟩) (by assumption) ?_
                          rotate_left
                          · (intro w hSw; (try dsimp only at hSw); go_simp <;> with_reducible rfl)
                          (try simp only [Act.put, List.setIfInBounds_toArray, List.set_cons_zero, List.set_cons_succ])
                          refine wpAnyH_take (i := 59) (oi := { dst := some 148, op := _, type := _, pos := _, after := _, guard := some (54, true) }) (v := ?_) rfl (by kernel_rfl) (by kernel_rfl) (by kernel_rfl) (fun _ _ _ h => h) (Or.inl ⟨by rfl, ?_⟩) (by assumption) ?_
                          rotate_left
                          · (intro w hSw; (try dsimp only at hSw); go_simp <;> with_reducible rfl)
                          (try simp only [Act.put, List.setIfInBounds_toArray, List.set_cons_zero, List.set_cons_succ])
                          refine wpAnyH_ready (rs := [57]) (by kernel_rfl) (by simp) ?_
                          refine AllReadyH.cons (o := { dst := some 146, op := _, type := _, pos := _, after := _, guard := some (54, true) }) rfl (fun K hK => ?_) ?_
                          · go_simp
                            go_at_call 30
                            refine (K15.out _ HD11.out).mono ?_
                            rintro e wr12 ⟨rfl, hb⟩
                            have HD12 := Lib.hid (bnext HD11.out hb)
                            clear hb
                            refine hK.out _ _ ?_ (fun hHeld => ?_)
                            · exact HSW.out _ HD12.out
                            clear hK K
                            (try simp only [Act.put, List.setIfInBounds_toArray, List.set_cons_zero, List.set_cons_succ])
                            refine wpAnyH_ready (rs := [60]) (by kernel_rfl) (by simp) ?_
                            refine AllReadyH.cons (o := { dst := some 149, op := _, type := _, pos := _, after := _, guard := some (54, true) }) rfl (fun K hK => ?_) ?_
                            · go_simp
                              go_at_call 31
                              refine (K16.out _ HD12.out).mono ?_
                              rintro e wr13 ⟨rfl, hb⟩
                              have HD13 := Lib.hid (bnext HD12.out hb)
                              clear hb
                              refine hK.out _ _ ?_ (fun hHeld => ?_)
                              · exact HSW.out _ HD13.out
                              clear hK K
                              (try simp only [Act.put, List.setIfInBounds_toArray, List.set_cons_zero, List.set_cons_succ])
                              refine wpAnyH_take (i := 61) (oi := { dst := some 150, op := _, type := _, pos := _, after := _, guard := some (54, true) }) (v := ?_) rfl (by kernel_rfl) (by kernel_rfl) (by kernel_rfl) (fun _ _ _ h => h) (Or.inl ⟨by rfl, ?_⟩) (by assumption) ?_
                              rotate_left
                              · (intro w hSw; (try dsimp only at hSw); go_simp <;> with_reducible rfl)
                              (try simp only [Act.put, List.setIfInBounds_toArray, List.set_cons_zero, List.set_cons_succ])
                              refine wpAnyH_take (i := 62) (oi := { dst := some 151, op := _, type := _, pos := _, after := _, guard := none }) (v := ?_) rfl (by kernel_rfl) (by kernel_rfl) (by kernel_rfl) (fun _ _ _ h => h) (Or.inl ⟨by rfl, ?_⟩) (by assumption) ?_
                              rotate_left
                              · (intro w hSw; (try dsimp only at hSw); go_simp <;> with_reducible rfl)
                              (try simp only [Act.put, List.setIfInBounds_toArray, List.set_cons_zero, List.set_cons_succ])
                              refine wpAnyH_take (i := 63) (oi := { dst := some 152, op := _, type := _, pos := _, after := _, guard := none }) (v := ?_) rfl (by kernel_rfl) (by kernel_rfl) (by kernel_rfl) (fun _ _ _ h => h) (Or.inl ⟨by rfl, ?_⟩) (by assumption) ?_
                              rotate_left
                              · (intro w hSw; (try dsimp only at hSw); go_simp <;> with_reducible rfl)
                              (try simp only [Act.put, List.setIfInBounds_toArray, List.set_cons_zero, List.set_cons_succ])
                              refine wpAnyH_take (i := 64) (oi := { dst := some 153, op := _, type := _, pos := _, after := _, guard := some (63, true) }) (v := ?_) rfl (by kernel_rfl) (by kernel_rfl) (by kernel_rfl) (fun _ _ _ h => h) (Or.inl ⟨by rfl, ?_⟩) (by assumption) ?_
                              rotate_left
                              · (intro w hSw; (try dsimp only at hSw); go_simp <;> with_reducible rfl)
                              (try simp only [Act.put, List.setIfInBounds_toArray, List.set_cons_zero, List.set_cons_succ])
                              refine wpAnyH_take (i := 66) (oi := { dst := some 155, op := _, type := _, pos := _, after := _, guard := some (63, true) }) (v := ?_) rfl (by kernel_rfl) (by kernel_rfl) (by kernel_rfl) (fun _ _ _ h => h) (Or.inl ⟨by rfl, ?_⟩) (by assumption) ?_
                              rotate_left
                              · (intro w hSw; (try dsimp only at hSw); go_simp <;> with_reducible rfl)
                              (try simp only [Act.put, List.setIfInBounds_toArray, List.set_cons_zero, List.set_cons_succ])
                              refine wpAnyH_ready (rs := [65]) (by kernel_rfl) (by simp) ?_
                              refine AllReadyH.cons (o := { dst := some 154, op := _, type := _, pos := _, after := _, guard := some (63, true) }) rfl (fun K hK => ?_) ?_
                              · go_simp
                                go_at_call 32
                                refine (K17.out _ HD13.out).mono ?_
                                rintro e wr14 ⟨rfl, hb⟩
                                have HD14 := Lib.hid (bnext HD13.out hb)
                                clear hb
                                refine hK.out _ _ ?_ (fun hHeld => ?_)
                                · exact HSW.out _ HD14.out
                                clear hK K
                                (try simp only [Act.put, List.setIfInBounds_toArray, List.set_cons_zero, List.set_cons_succ])
                                refine wpAnyH_ready (rs := [67]) (by kernel_rfl) (by simp) ?_
                                refine AllReadyH.cons (o := { dst := some 156, op := _, type := _, pos := _, after := _, guard := some (63, true) }) rfl (fun K hK => ?_) ?_
                                · go_simp
                                  go_at_call 33
                                  refine (K18.out _ HD14.out).mono ?_
                                  rintro e wr15 ⟨rfl, hb⟩
                                  have HD15 := Lib.hid (bnext HD14.out hb)
                                  clear hb
                                  refine hK.out _ _ ?_ (fun hHeld => ?_)
                                  · exact HSW.out _ HD15.out
                                  clear hK K
                                  (try simp only [Act.put, List.setIfInBounds_toArray, List.set_cons_zero, List.set_cons_succ])
                                  refine wpAnyH_take (i := 68) (oi := { dst := some 157, op := _, type := _, pos := _, after := _, guard := some (63, true) }) (v := ?_) rfl (by kernel_rfl) (by kernel_rfl) (by kernel_rfl) (fun _ _ _ h => h) (Or.inl ⟨by rfl, ?_⟩) (by assumption) ?_
                                  rotate_left
                                  · (intro w hSw; (try dsimp only at hSw); go_simp <;> with_reducible rfl)
                                  (try simp only [Act.put, List.setIfInBounds_toArray, List.set_cons_zero, List.set_cons_succ])
                                  refine wpAnyH_take (i := 69) (oi := { dst := some 158, op := _, type := _, pos := _, after := _, guard := none }) (v := ?_) rfl (by kernel_rfl) (by kernel_rfl) (by kernel_rfl) (fun _ _ _ h => h) (Or.inl ⟨by rfl, ?_⟩) (by assumption) ?_
                                  rotate_left
                                  · (intro w hSw; (try dsimp only at hSw); go_simp <;> with_reducible rfl)
                                  (try simp only [Act.put, List.setIfInBounds_toArray, List.set_cons_zero, List.set_cons_succ])
                                  refine wpAnyH_ready (rs := [70]) (by kernel_rfl) (by simp) ?_
                                  refine AllReadyH.cons (o := { dst := some 2, op := _, type := _, pos := _, after := _, guard := none }) rfl (fun K hK => ?_) ?_
                                  · go_simp
                                    refine hK.out _ _ ?_ (fun hHeld => ?_)
                                    · exact HSW.out _ HD15.out
                                    clear hK K
                                    (try simp only [Act.put, List.setIfInBounds_toArray, List.set_cons_zero, List.set_cons_succ])
                                    refine wpAnyH_done (by kernel_rfl) ?_ _
                                    refine NoPanic.normal ?_
                                    exact hQ _ _ rfl (by simp) HD15.out
                                  exact AllReadyH.nil
                                exact AllReadyH.nil
                              exact AllReadyH.nil
                            exact AllReadyH.nil
                          exact AllReadyH.nil
                        | true =>
                          have hlc := hasym rfl
                          subst hlc
                          refine wpAnyH_take (i := 48) (oi := { dst := some 137, op := _, type := _, pos := _, after := _, guard := some (47, true) }) (v := ?_) rfl (by kernel_rfl) (by kernel_rfl) (by kernel_rfl) (fun _ _ _ h => h) (Or.inl ⟨by rfl, ?_⟩) (by assumption) ?_
                          rotate_left
                          · (intro w hSw; (try dsimp only at hSw); go_simp <;> with_reducible rfl)
                          (try simp only [Act.put, List.setIfInBounds_toArray, List.set_cons_zero, List.set_cons_succ])
                          refine wpAnyH_take (i := 49) (oi := { dst := some 138, op := _, type := _, pos := _, after := _, guard := some (47, true) }) (v := ?_) rfl (by kernel_rfl) (by kernel_rfl) (by kernel_rfl) (fun _ _ _ h => h) (Or.inl ⟨by rfl, ?_⟩) (by assumption) ?_
                          rotate_left
                          · (intro w hSw; (try dsimp only at hSw); go_simp <;> with_reducible rfl)
                          (try simp only [Act.put, List.setIfInBounds_toArray, List.set_cons_zero, List.set_cons_succ])
                          refine wpAnyH_ready (rs := [50]) (by kernel_rfl) (by simp) ?_
                          refine AllReadyH.cons (o := { dst := some 139, op := _, type := _, pos := _, after := _, guard := some (47, true) }) rfl (fun K hK => ?_) ?_
                          · go_simp
                            go_at_call 28
                            refine (K14.out _ HD11.out).mono ?_
                            rintro e wr12 ⟨rfl, hb⟩
                            have HD12 := Lib.hid (bnext HD11.out hb)
                            clear hb
                            refine hK.out _ _ ?_ (fun hHeld => ?_)
                            · exact HSW.out _ HD12.out
                            clear hK K
                            (try simp only [Act.put, List.setIfInBounds_toArray, List.set_cons_zero, List.set_cons_succ])
                            refine wpAnyH_take (i := 51) (oi := { dst := some 140, op := _, type := _, pos := _, after := _, guard := some (43, true) }) (v := ?_) rfl (by kernel_rfl) (by kernel_rfl) (by kernel_rfl) (fun _ _ _ h => h) (Or.inl ⟨by rfl, ?_⟩) (by assumption) ?_
                            rotate_left
                            · (intro w hSw; (try dsimp only at hSw); go_simp <;> with_reducible rfl)
                            (try simp only [Act.put, List.setIfInBounds_toArray, List.set_cons_zero, List.set_cons_succ])
                            refine wpAnyH_take (i := 52) (oi := { dst := some 141, op := _, type := _, pos := _, after := _, guard := some (43, true) }) (v := ?_) rfl (by kernel_rfl) (by kernel_rfl) (by kernel_rfl) (fun _ _ _ h => h) (Or.inl ⟨by rfl, ?_⟩) (by assumption) ?_
                            rotate_left
                            · (intro w hSw; (try dsimp only at hSw); go_simp <;> with_reducible rfl)
                            (try simp only [Act.put, List.setIfInBounds_toArray, List.set_cons_zero, List.set_cons_succ])
                            refine wpAnyH_take (i := 53) (oi := { dst := some 142, op := _, type := _, pos := _, after := _, guard := none }) (v := ?_) rfl (by kernel_rfl) (by kernel_rfl) (by kernel_rfl) (fun _ _ _ h => h) (Or.inl ⟨by rfl, ?_⟩) (by assumption) ?_
                            rotate_left
                            · (intro w hSw; (try dsimp only at hSw); go_simp <;> with_reducible rfl)
                            (try simp only [Act.put, List.setIfInBounds_toArray, List.set_cons_zero, List.set_cons_succ])
                            refine wpAnyH_take (i := 54) (oi := { dst := some 143, op := _, type := _, pos := _, after := _, guard := none }) (v := ?_) rfl (by kernel_rfl) (by kernel_rfl) (by kernel_rfl) (fun _ _ _ h => h) (Or.inl ⟨by rfl, ?_⟩) (by assumption) ?_
                            rotate_left
                            · (intro w hSw; (try dsimp only at hSw); go_simp <;> with_reducible rfl)
                            (try simp only [Act.put, List.setIfInBounds_toArray, List.set_cons_zero, List.set_cons_succ])
                            refine wpAnyH_take (i := 55) (oi := { dst := some 144, op := _, type := _, pos := _, after := _, guard := some (54, true) }) (v := ?_) rfl (by kernel_rfl) (by kernel_rfl) (by kernel_rfl) (fun _ _ _ h => h) (Or.inl ⟨by rfl, ?_⟩) (by assumption) ?_
                            rotate_left
                            · (intro w hSw; (try dsimp only at hSw); go_simp <;> with_reducible rfl)
                            (try simp only [Act.put, List.setIfInBounds_toArray, List.set_cons_zero, List.set_cons_succ])
                            refine wpAnyH_take (i := 56) (oi := { dst := some 145, op := _, type := _, pos := _, after := _, guard := some (54, true) }) (v := ?_) rfl (by kernel_rfl) (by kernel_rfl) (by kernel_rfl) (fun _ _ _ h => h) (Or.inl ⟨by rfl, ?_⟩) (by assumption) ?_
                            rotate_left
                            · (intro w hSw; (try dsimp only at hSw); go_simp <;> with_reducible rfl)
                            (try simp only [Act.put, List.setIfInBounds_toArray, List.set_cons_zero, List.set_cons_succ])
                            refine wpAnyH_take (i := 58) (oi := { dst := some 147, op := _, type := _, pos := _, after := _, guard := some (54, true) }) (v := ?_) rfl (by kernel_rfl) (by kernel_rfl) (by kernel_rfl) (fun _ _ _ h => h) (Or.inl ⟨by rfl, ?_⟩) (by assumption) ?_
                            rotate_left
                            · (intro w hSw; (try dsimp only at hSw); go_simp <;> with_reducible rfl)
                            (try simp only [Act.put, List.setIfInBounds_toArray, List.set_cons_zero, List.set_cons_succ])
                            refine wpAnyH_take (i := 59) (oi := { dst := some 148, op := _, type := _, pos := _, after := _, guard := some (54, true) }) (v := ?_) rfl (by kernel_rfl) (by kernel_rfl) (by kernel_rfl) (fun _ _ _ h => h) (Or.inl ⟨by rfl, ?_⟩) (by assumption) ?_
                            rotate_left
                            · (intro w hSw; (try dsimp only at hSw); go_simp <;> with_reducible rfl)
                            (try simp only [Act.put, List.setIfInBounds_toArray, List.set_cons_zero, List.set_cons_succ])
                            refine wpAnyH_ready (rs := [57]) (by kernel_rfl) (by simp) ?_
                            refine AllReadyH.cons (o := { dst := some 146, op := _, type := _, pos := _, after := _, guard := some (54, true) }) rfl (fun K hK => ?_) ?_
                            · go_simp
                              go_at_call 30
                              refine (K15.out _ HD12.out).mono ?_
                              rintro e wr13 ⟨rfl, hb⟩
                              have HD13 := Lib.hid (bnext HD12.out hb)
                              clear hb
                              refine hK.out _ _ ?_ (fun hHeld => ?_)
                              · exact HSW.out _ HD13.out
                              clear hK K
                              (try simp only [Act.put, List.setIfInBounds_toArray, List.set_cons_zero, List.set_cons_succ])
                              refine wpAnyH_ready (rs := [60]) (by kernel_rfl) (by simp) ?_
                              refine AllReadyH.cons (o := { dst := some 149, op := _, type := _, pos := _, after := _, guard := some (54, true) }) rfl (fun K hK => ?_) ?_
                              · go_simp
                                go_at_call 31
                                refine (K16.out _ HD13.out).mono ?_
                                rintro e wr14 ⟨rfl, hb⟩
                                have HD14 := Lib.hid (bnext HD13.out hb)
                                clear hb
                                refine hK.out _ _ ?_ (fun hHeld => ?_)
                                · exact HSW.out _ HD14.out
                                clear hK K
                                (try simp only [Act.put, List.setIfInBounds_toArray, List.set_cons_zero, List.set_cons_succ])
                                refine wpAnyH_take (i := 61) (oi := { dst := some 150, op := _, type := _, pos := _, after := _, guard := some (54, true) }) (v := ?_) rfl (by kernel_rfl) (by kernel_rfl) (by kernel_rfl) (fun _ _ _ h => h) (Or.inl ⟨by rfl, ?_⟩) (by assumption) ?_
                                rotate_left
                                · (intro w hSw; (try dsimp only at hSw); go_simp <;> with_reducible rfl)
                                (try simp only [Act.put, List.setIfInBounds_toArray, List.set_cons_zero, List.set_cons_succ])
                                refine wpAnyH_take (i := 62) (oi := { dst := some 151, op := _, type := _, pos := _, after := _, guard := none }) (v := ?_) rfl (by kernel_rfl) (by kernel_rfl) (by kernel_rfl) (fun _ _ _ h => h) (Or.inl ⟨by rfl, ?_⟩) (by assumption) ?_
                                rotate_left
                                · (intro w hSw; (try dsimp only at hSw); go_simp <;> with_reducible rfl)
                                (try simp only [Act.put, List.setIfInBounds_toArray, List.set_cons_zero, List.set_cons_succ])
                                refine wpAnyH_take (i := 63) (oi := { dst := some 152, op := _, type := _, pos := _, after := _, guard := none }) (v := ?_) rfl (by kernel_rfl) (by kernel_rfl) (by kernel_rfl) (fun _ _ _ h => h) (Or.inl ⟨by rfl, ?_⟩) (by assumption) ?_
                                rotate_left
                                · (intro w hSw; (try dsimp only at hSw); go_simp <;> with_reducible rfl)
                                (try simp only [Act.put, List.setIfInBounds_toArray, List.set_cons_zero, List.set_cons_succ])
                                refine wpAnyH_take (i := 64) (oi := { dst := some 153, op := _, type := _, pos := _, after := _, guard := some (63, true) }) (v := ?_) rfl (by kernel_rfl) (by kernel_rfl) (by kernel_rfl) (fun _ _ _ h => h) (Or.inl ⟨by rfl, ?_⟩) (by assumption) ?_
                                rotate_left
                                · (intro w hSw; (try dsimp only at hSw); go_simp <;> with_reducible rfl)
                                (try simp only [Act.put, List.setIfInBounds_toArray, List.set_cons_zero, List.set_cons_succ])
                                refine wpAnyH_take (i := 66) (oi := { dst := some 155, op := _, type := _, pos := _, after := _, guard := some (63, true) }) (v := ?_) rfl (by kernel_rfl) (by kernel_rfl) (by kernel_rfl) (fun _ _ _ h => h) (Or.inl ⟨by rfl, ?_⟩) (by assumption) ?_
                                rotate_left
                                · (intro w hSw; (try dsimp only at hSw); go_simp <;> with_reducible rfl)
                                (try simp only [Act.put, List.setIfInBounds_toArray, List.set_cons_zero, List.set_cons_succ])
                                refine wpAnyH_ready (rs := [65]) (by kernel_rfl) (by simp) ?_
                                refine AllReadyH.cons (o := { dst := some 154, op := _, type := _, pos := _, after := _, guard := some (63, true) }) rfl (fun K hK => ?_) ?_
                                · go_simp
                                  go_at_call 32
                                  refine (K17.out _ HD14.out).mono ?_
                                  rintro e wr15 ⟨rfl, hb⟩
                                  have HD15 := Lib.hid (bnext HD14.out hb)
                                  clear hb
                                  refine hK.out _ _ ?_ (fun hHeld => ?_)
                                  · exact HSW.out _ HD15.out
                                  clear hK K
                                  (try simp only [Act.put, List.setIfInBounds_toArray, List.set_cons_zero, List.set_cons_succ])
                                  refine wpAnyH_ready (rs := [67]) (by kernel_rfl) (by simp) ?_
                                  refine AllReadyH.cons (o := { dst := some 156, op := _, type := _, pos := _, after := _, guard := some (63, true) }) rfl (fun K hK => ?_) ?_
                                  · go_simp
                                    go_at_call 33
                                    refine (K18.out _ HD15.out).mono ?_
                                    rintro e wr16 ⟨rfl, hb⟩
                                    have HD16 := Lib.hid (bnext HD15.out hb)
                                    clear hb
                                    refine hK.out _ _ ?_ (fun hHeld => ?_)
                                    · exact HSW.out _ HD16.out
                                    clear hK K
                                    (try simp only [Act.put, List.setIfInBounds_toArray, List.set_cons_zero, List.set_cons_succ])
                                    refine wpAnyH_take (i := 68) (oi := { dst := some 157, op := _, type := _, pos := _, after := _, guard := some (63, true) }) (v := ?_) rfl (by kernel_rfl) (by kernel_rfl) (by kernel_rfl) (fun _ _ _ h => h) (Or.inl ⟨by rfl, ?_⟩) (by assumption) ?_
                                    rotate_left
                                    · (intro w hSw; (try dsimp only at hSw); go_simp <;> with_reducible rfl)
                                    (try simp only [Act.put, List.setIfInBounds_toArray, List.set_cons_zero, List.set_cons_succ])
                                    refine wpAnyH_take (i := 69) (oi := { dst := some 158, op := _, type := _, pos := _, after := _, guard := none }) (v := ?_) rfl (by kernel_rfl) (by kernel_rfl) (by kernel_rfl) (fun _ _ _ h => h) (Or.inl ⟨by rfl, ?_⟩) (by assumption) ?_
                                    rotate_left
                                    · (intro w hSw; (try dsimp only at hSw); go_simp <;> with_reducible rfl)
                                    (try simp only [Act.put, List.setIfInBounds_toArray, List.set_cons_zero, List.set_cons_succ])
                                    refine wpAnyH_ready (rs := [70]) (by kernel_rfl) (by simp) ?_
                                    refine AllReadyH.cons (o := { dst := some 2, op := _, type := _, pos := _, after := _, guard := none }) rfl (fun K hK => ?_) ?_
                                    · go_simp
                                      refine hK.out _ _ ?_ (fun hHeld => ?_)
                                      · exact HSW.out _ HD16.out
                                      clear hK K
                                      (try simp only [Act.put, List.setIfInBounds_toArray, List.set_cons_zero, List.set_cons_succ])
                                      refine wpAnyH_done (by kernel_rfl) ?_ _
                                      refine NoPanic.normal ?_
                                      exact hQ _ _ rfl (by simp) HD16.out
                                    exact AllReadyH.nil
                                  exact AllReadyH.nil
                                exact AllReadyH.nil
                              exact AllReadyH.nil
                            exact AllReadyH.nil
                          exact AllReadyH.nil
                      exact AllReadyH.nil
                    exact AllReadyH.nil
                  exact AllReadyH.nil
                exact AllReadyH.nil
              exact AllReadyH.nil
            exact AllReadyH.nil
          exact AllReadyH.nil
        exact AllReadyH.nil
      exact AllReadyH.nil
    exact AllReadyH.nil
  exact AllReadyH.nil

end Go.Proofs.Ytpedpbbiamhgdaa
