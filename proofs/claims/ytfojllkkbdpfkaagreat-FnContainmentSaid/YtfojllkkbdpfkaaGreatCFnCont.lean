/- Merged of M8u, Wtup, CFnContainment. -/
import Derived.Test.YtfojllkkbdpfkaaGreatM8st
import Derived.Test.YtfojllkkbdpfkaaGreatS7M
import Derived.Test.YtfojllkkbdpfkaaGreatC8con
import Derived.Test.YtfojllkkbdpfkaaGreatWints
import Derived.Test.YtfojllkkbdpfkaaGreatS6all
import Derived.Test.YtfojllkkbdpfkaaGreatPairAll
import Derived.Test.YtfojllkkbdpfkaaGreatC8ce
import Derived.Test.YtfojllkkbdpfkaaGreatI6dat
import Derived.Test.YtfojllkkbdpfkaaGreatI6all
import Derived.Deep.DeepCutAuto
/-! M8u -/
namespace Go.Proofs.YtfojllkkbdpfkaaGreat
open Go Go.RowKit
set_option linter.unusedVariables false

theorem bstep8 {b b' : List Int} {t v : Int} (h : b.length = 40) (ht : t < 20) (e : bindStep b t v = some b') : b'.length = 40 ∧ (∀ k, k < 20 → Bd8 b k → Bd8 b' k ∧ b'.getD k 0 = b.getD k 0) ∧ (t < 0 → -1 - t = v) ∧ (0 ≤ t → Bd8 b' t.toNat ∧ b'.getD t.toNat 0 = v) := by
  unfold bindStep at e
  by_cases h0 : t < 0
  · rw [if_pos h0] at e
    split at e
    · rename_i hv; cases e; exact ⟨h, fun k _ hb => ⟨hb, rfl⟩, fun _ => hv, fun h1 => by omega⟩
    · cases e
  · rw [if_neg h0] at e
    obtain ⟨n, rfl⟩ := Int.eq_ofNat_of_zero_le (by omega : 0 ≤ t)
    simp only [Int.toNat_natCast] at e ⊢
    have hn : n < 20 := by omega
    by_cases hz : b.getD (20 + n) 0 = 0
    · rw [if_pos hz] at e
      cases e
      have G : ∀ j, ((b.set n v).set (20 + n) 1).getD j 0 = if j = 20 + n then 1 else if j = n then v else b.getD j 0 := by
        intro j
        have l1 : n < b.length := by rw [h]; omega
        have l2 : 20 + n < (b.set n v).length := by rw [List.length_set, h]; omega
        rw [getD_set8 _ _ _ _ l2, getD_set8 _ _ _ _ l1]
      refine ⟨by simpa using h, fun k hk hb => ?_, fun h1 => by omega, fun _ => ⟨?_, ?_⟩⟩
      · have hkn : k ≠ n := fun e => by subst e; exact hb hz
        unfold Bd8 at hb ⊢
        rw [G, G, if_neg (by omega : ¬ k = 20 + n), if_neg hkn, if_neg (by omega : ¬ 20 + k = n)]
        refine ⟨?_, rfl⟩
        split
        · decide
        · exact hb
      · unfold Bd8; rw [G, if_pos rfl]; decide
      · rw [G, if_neg (by omega), if_pos rfl]
    · rw [if_neg hz] at e
      split at e
      · rename_i hv; cases e; exact ⟨h, fun k _ hb => ⟨hb, rfl⟩, fun h1 => by omega, fun _ => ⟨hz, hv⟩⟩
      · cases e
theorem getD_at8 {l : List Int} {j : Nat} (h : j < l.length) : l.getD j 0 = l[j] := by
  rw [List.getD_eq_getElem?_getD, List.getElem?_eq_getElem h]; rfl
theorem bto8 {args vals b : List Int} (h : b.length = 40) (ht : ∀ t ∈ args, t < 20) : ∀ (i : Nat) {b' : List Int}, i ≤ args.length → bindTo args vals b i = some b' → b'.length = 40 ∧ (∀ k, k < 20 → Bd8 b k → Bd8 b' k ∧ b'.getD k 0 = b.getD k 0) ∧ ∀ j, j < i → (args.getD j 0 < 0 → -1 - args.getD j 0 = vals.getD j 0) ∧ (0 ≤ args.getD j 0 → Bd8 b' (args.getD j 0).toNat ∧ b'.getD (args.getD j 0).toNat 0 = vals.getD j 0)
  | 0, b', _, e => by cases e; exact ⟨h, fun k _ hb => ⟨hb, rfl⟩, fun j hj => by omega⟩
  | i + 1, b', hi, e => by
    replace e : (bindTo args vals b i).bind (fun b' => bindStep b' (args.getD i 0) (vals.getD i 0)) = some b' := e
    cases e1 : bindTo args vals b i with
    | none => rw [e1] at e; cases e
    | some b1 =>
      rw [e1] at e
      replace e : bindStep b1 (args.getD i 0) (vals.getD i 0) = some b' := e
      obtain ⟨l1, k1, q1⟩ := bto8 h ht i (by omega) e1
      have lt : ∀ j, j < args.length → args.getD j 0 < 20 := fun j hj => by rw [getD_at8 hj]; exact ht _ (List.getElem_mem hj)
      obtain ⟨l2, k2, n2, p2⟩ := bstep8 l1 (lt i (by omega)) e
      refine ⟨l2, fun k hk hb => ?_, fun j hj => ?_⟩
      · obtain ⟨u1, u2⟩ := k1 k hk hb
        obtain ⟨w1, w2⟩ := k2 k hk u1
        exact ⟨w1, w2.trans u2⟩
      · rcases Nat.lt_or_ge j i with hji | hji
        · refine ⟨(q1 j hji).1, fun h0 => ?_⟩
          obtain ⟨u1, u2⟩ := (q1 j hji).2 h0
          have := lt j (by omega)
          obtain ⟨w1, w2⟩ := k2 _ (by omega) u1
          exact ⟨w1, w2.trans u2⟩
        · obtain rfl : j = i := by omega
          exact ⟨n2, p2⟩
/-- What the search finds makes all atoms facts. -/
theorem sound8 {db : List AtomD} : ∀ {rest : List AtomD} {b r : List Int}, b.length = 40 → (∀ a ∈ rest, ∀ t ∈ a.2, t < 20) → r ∈ searchN db rest b → (∀ k, k < 20 → Bd8 b k → r.getD k 0 = b.getD k 0) ∧ ∀ a ∈ rest, (a.1, a.2.map (ev8 (fun k => r.getD k 0))) ∈ db
  | [], b, r, h, _, hr => by
    rw [List.mem_singleton.1 hr]
    refine ⟨fun k hk _ => ?_, fun a ha => by cases ha⟩
    rw [List.getD_eq_getElem?_getD, List.getElem?_take_of_lt hk, ← List.getD_eq_getElem?_getD]
  | a :: rest, b, r, h, ht, hr => by
    rw [searchN_cons] at hr
    obtain ⟨f, hf, h1⟩ := List.mem_flatMap.1 hr
    unfold hitN at h1
    split at h1
    · rename_i hc
      cases e : bindL a.2 f.2 b with
      | none => rw [e] at h1; cases h1
      | some b1 =>
        rw [e] at h1
        obtain ⟨l1, k1, q1⟩ := bto8 h (ht a (List.mem_cons_self ..)) a.2.length (Nat.le_refl _) e
        obtain ⟨r1, r2⟩ := sound8 l1 (fun x hx => ht x (List.mem_cons_of_mem _ hx)) h1
        refine ⟨fun k hk hb => (r1 k hk (k1 k hk hb).1).trans (k1 k hk hb).2, fun x hx => ?_⟩
        rcases List.mem_cons.1 hx with hxe | hx
        · have key : a.2.map (ev8 fun k => r.getD k 0) = f.2 := by
            refine List.ext_getElem (by simpa using hc.2.symm) (fun j j1 j2 => ?_)
            have hj : j < a.2.length := by simpa using j1
            obtain ⟨n, p⟩ := q1 j hj
            rw [getD_at8 hj, getD_at8 j2] at n p
            rw [List.getElem_map]
            have hlt := ht a (List.mem_cons_self ..) _ (List.getElem_mem hj)
            unfold ev8
            by_cases h0 : a.2[j] < 0
            · rw [if_pos h0]; exact n h0
            · rw [if_neg h0]
              obtain ⟨u1, u2⟩ := p (by omega)
              exact (r1 _ (by omega) u1).trans u2
          rw [hxe, key, ← hc.1]; exact hf
        · exact r2 x hx
    · cases h1
theorem tup_ev8 (r head : List Int) : tupL head r = head.map (ev8 (fun k => r.getD k 0)) := List.map_congr_left (fun t _ => rfl)
theorem head_term8 {s : List Int} {d : QueryD} (h : fineB s d 4 = true) : ∀ x ∈ d.1, -80 ≤ x ∧ x ≤ 19 := fun x hx => term_in (List.all_eq_true.1 (terms_all (frz_parts (fine_frz h)).1) x hx)
theorem body_term8 {s : List Int} {d : QueryD} (h : fineB s d 4 = true) : ∀ a ∈ d.2, ∀ x ∈ a.2, -80 ≤ x ∧ x ≤ 19 := fun a ha x hx => term_in (List.all_eq_true.1 (terms_all ((frz_parts (fine_frz h)).2.2 a ha)) x hx)
theorem asgs_map8 {M l l' : List Int} (hl : l.length = l'.length) (h : ∀ j, j < l.length → asg M (l.getD j 0) (l'.getD j 0)) {f g : Int → Int} (hf : ∀ t u, asg M t u → f t = g u) : l.map f = l'.map g := by
  refine List.ext_getElem (by simpa using hl) (fun j h1 h2 => ?_)
  have j1 : j < l.length := by simpa using h1
  have j2 : j < l'.length := by simpa using h2
  have h3 := hf _ _ (h j j1)
  rw [getD_at8 j1, getD_at8 j2] at h3
  rw [List.getElem_map, List.getElem_map]
  exact h3
/-- A contained query's answers are the other's. -/
theorem cont_sub8 {s t : List Int} {a b : QueryD} {db : List AtomD} (h : conB8 s a b = true) (ht : t ∈ answersN s a db) : t ∈ answersN s b db := by
  obtain ⟨y, hy⟩ := Option.isSome_iff_exists.1 h
  unfold fmN at hy
  split at hy
  · rename_i hc
    rw [Bool.and_eq_true] at hc
    obtain ⟨hb, ha⟩ := hc
    by_cases hdb : isDbB s db = true
    · rw [ans_mem8 ha hdb] at ht
      rw [ans_mem8 hb hdb]
      obtain ⟨r, hr, rfl⟩ := ht
      have hs := (sound8 (by simp [emptyB]) (fine_vars ha) hr).2
      have hF : Full y b a := findN_ok (fun x hx => by have := head_term8 hb x hx; omega) (fine_vars hb) (fun x hx => by have := head_term8 ha x hx; omega) (fun c hc x hx => by have := body_term8 ha c hc x hx; omega) hy
      have key : ∀ t u, asg y t u → ev8 (fun k => ev8 (fun k => r.getD k 0) (y.getD k 0)) t = ev8 (fun k => r.getD k 0) u := by
        rintro t u (⟨h1, rfl⟩ | ⟨k, rfl, h2, h3, h4⟩)
        · unfold ev8; rw [if_pos h1, if_pos h1]
        · rw [ev8, if_neg (by omega)]
          show ev8 (fun k => r.getD k 0) (y.getD ((k : Int).toNat) 0) = _
          rw [Int.toNat_natCast, h3]
      obtain ⟨r', hr', e⟩ := search_tup8 (β := fun k => ev8 (fun k => r.getD k 0) (y.getD k 0)) (db := db) hb (fun x hx => by
        obtain ⟨z, hz, e1, e2, e3⟩ := hF.body x hx
        rw [asgs_map8 e2 e3 key, e1]; exact hs z hz)
      refine ⟨r', hr', e.trans ?_⟩
      rw [tup_ev8]; exact asgs_map8 hF.hlen hF.head key
    · exfalso
      unfold answersN bindingsN at ht
      rw [if_neg (fun e => hdb e.2), (sortL_once _).2] at ht
      simp at ht
  · cases hy
def frzM (r : List Int) : List Int := (List.range 20).map (fun k : Nat => ter8 (r.getD k 0))
theorem frzM_at {r : List Int} {k : Nat} (h : k < 20) : (frzM r).getD k 0 = ter8 (r.getD k 0) := by
  unfold frzM
  rw [List.getD_eq_getElem?_getD, List.getElem?_map, List.getElem?_range h]; rfl
theorem grows_frzM (r : List Int) : Grows (List.replicate 20 (-1000)) (frzM r) := by
  refine ⟨by simp [frzM], fun k hk => ?_⟩
  rcases Nat.lt_or_ge k 20 with h | h
  · exact absurd (by rw [List.getD_eq_getElem?_getD, List.getElem?_replicate, if_pos h]; rfl) hk
  · rw [List.getD_eq_getElem?_getD, List.getD_eq_getElem?_getD, List.getElem?_eq_none (by simp [frzM]; omega), List.getElem?_eq_none (by simpa using h)]
theorem asg_frzM {r : List Int} {t u : Int} (ht : -80 ≤ t ∧ t ≤ 19) (hu : -80 ≤ u ∧ u ≤ 19) (e : ev8 (fun k => r.getD k 0) t = val8 u) : asg (frzM r) t u := by
  unfold ev8 at e
  by_cases h0 : t < 0
  · rw [if_pos h0] at e
    unfold val8 at e
    split at e
    · exact .inl ⟨h0, by omega⟩
    · omega
  · rw [if_neg h0] at e
    obtain ⟨k, rfl⟩ := Int.eq_ofNat_of_zero_le (by omega : 0 ≤ t)
    replace e : r.getD k 0 = val8 u := e
    refine .inr ⟨k, rfl, by simp [frzM]; omega, ?_, by omega⟩
    rw [frzM_at (by omega), e]
    unfold val8 ter8
    split <;> split <;> omega
theorem asgs_frzM {r l l' : List Int} (hl : ∀ x ∈ l, -80 ≤ x ∧ x ≤ 19) (hl' : ∀ x ∈ l', -80 ≤ x ∧ x ≤ 19) (e : l.map (ev8 (fun k => r.getD k 0)) = l'.map val8) : l.length = l'.length ∧ ∀ j, j < l.length → asg (frzM r) (l.getD j 0) (l'.getD j 0) := by
  have hlen : l.length = l'.length := by simpa using congrArg List.length e
  refine ⟨hlen, fun j hj => ?_⟩
  have hj' : j < l'.length := by omega
  rw [getD_at8 hj, getD_at8 hj']
  refine asg_frzM (hl _ (List.getElem_mem hj)) (hl' _ (List.getElem_mem hj')) ?_
  have := congrArg (fun m => m[j]?) e
  simpa [List.getElem?_map, List.getElem?_eq_getElem hj, List.getElem?_eq_getElem hj'] using this
/-- Where the frozen head is an answer on the frozen body, the query is contained. -/
theorem ce_con8 {s : List Int} {a b : QueryD} (ha : fineB s a 4 = true) (hb : fineB s b 4 = true) (h : frzHd a ∈ answersN s b (frzDb a)) : conB8 s a b = true := by
  rw [ans_mem8 hb (frz_db ha)] at h
  obtain ⟨r, hr, e⟩ := h
  have hok := fine_frz ha
  rw [tup_ev8, frzHd_yes hok] at e
  have hs := (sound8 (by simp [emptyB]) (fine_vars hb) hr).2
  obtain ⟨f1, f2, f3⟩ := frzTo_ok a.2 a.2.length (Nat.le_refl _)
  obtain ⟨hlen, hd⟩ := asgs_frzM (head_term8 hb) (head_term8 ha) e
  obtain ⟨u1, u2⟩ := uniTo_in (m := List.replicate 20 (-1000)) (H := frzM r) (f := b.1) (t := a.1) (by simp) (grows_frzM r) b.1.length hd
  obtain ⟨y, hy⟩ := srch_some (B := a.2) (H := frzM r) (F := b.2) (m := (uniF (List.replicate 20 (-1000)) b.1 a.1).1) ((uniTo_len _ _ _ _).trans (by simp)) u2 (fun x hx => by
    have h1 := hs x hx
    rw [frzDb_yes hok, f2] at h1
    obtain ⟨z, hz, hez⟩ := h1
    rw [List.take_length] at hz
    have e1 : (fct8 z).1 = x.1 := by rw [hez]
    have e2 : (fct8 z).2 = x.2.map (ev8 (fun k => r.getD k 0)) := by rw [hez]
    obtain ⟨m1, m2⟩ := asgs_frzM (body_term8 hb x hx) (body_term8 ha z hz) e2.symm
    exact ⟨z, hz, e1.symm, m1, m2⟩)
  unfold conB8 fmN
  rw [if_pos (by rw [hb, ha]; rfl)]
  unfold findN
  rw [if_pos ⟨hlen, u1⟩, hy]; rfl
end Go.Proofs.YtfojllkkbdpfkaaGreat

/-! Wtup -/
namespace Go.Proofs.YtfojllkkbdpfkaaGreat
open Go Go.Sort Go.RowKit
set_option linter.unusedVariables false

set_option maxHeartbeats 4000000 in
theorem wHas_any (w : World) (v vx : Value) (l : List (List Int)) (x : List Int) (h : RdIntSS w v l) (hx : Ints w vx x) :
    Calls Tryz.prog 86 #[v, vx] w (GaveBool w (decide (x ∈ l))) := by
  obtain ⟨a, n, c, rfl, h⟩ := h
  obtain ⟨xa, xc, rfl⟩ := hx.form
  obtain ⟨hl, hn, hm, hcell⟩ := h.at
  unfold maxLen at hm
  have HC := Lib.hid hcell
  have HL := Lib.hid hl
  have HX := Lib.hid hx
  have hEq := Lib.hid (fun w v v' l l' a b => wInts_any w v v' l l' a b)
  generalize x.length = xn at *
  clear h hcell hl hx
  go_enter Tryz.func86, Tryz.ntmps86
  go_wp2_with fail
  go_loopw [5] (fun iv wr => ∃ i : Nat, i ≤ n ∧ iv = .int .i64 i ∧ Below w.heap.size w wr ∧ Hid (∀ (j : Nat) (y : List Int), j < i → l[j]? = some y → y ≠ x)) (fun iv _ => n - (intOf iv).toNat)
  case atStart => exact ⟨0, by omega, rfl, Below.refl _ _, fun j y hj => by omega⟩
  case round =>
    obtain ⟨i, hi, rfl, hb, HE⟩ := hrel
    have HB := Lib.hid hb
    by_cases hlt : i < n
    · obtain ⟨b, off, rfl, hbw, hc⟩ := HC.out (by omega)
      obtain ⟨d, hd⟩ : ∃ d, l[i]? = some d := ⟨l[i]'(by rw [HL.out]; exact hlt), List.getElem?_eq_getElem (by rw [HL.out]; exact hlt)⟩
      obtain ⟨ea, em, ec, c1, hints⟩ := intsAt (n := n) hc i d hd
      have k1 := cellk hb c1
      have HD := Lib.hid hd
      have hi0 : (0 : Int) ≤ i := by omega
      have hi1 : (i : Int) < n := by omega
      have hcall := Lib.hid (hEq.out wr (.slice ea em ec) (.slice xa xn xc) d x (hints.below hb) (HX.out.below hb))
      clear hc hbw hb hd hints c1
      by_cases heq : d = x
      · have HQ : Hid (decide (x ∈ l) = true) := decide_eq_true (by rw [← heq]; exact List.mem_of_getElem? HD.out)
        rw [decide_eq_true heq] at hcall
        clear heq
        go_wp2_with fail
        refine hcall.out.mono ?_
        rintro e w1 ⟨rfl, hb⟩
        have HB1 := Lib.hid (bnext HB.out hb)
        clear hb k1
        go_wp2_with fail
        go_ret
        exact ⟨ret_b HQ.out.symm, HB1.out⟩
      · have HQ := Lib.hid heq
        rw [decide_eq_false heq] at hcall
        clear heq
        go_wp2_with fail
        refine hcall.out.mono ?_
        rintro e w1 ⟨rfl, hb⟩
        have HB1 := Lib.hid (bnext HB.out hb)
        clear hb k1
        go_wp2_with fail
        refine ⟨⟨i + 1, by omega, by simp, HB1.out, fun j y hj h5 => ?_⟩, by simp [intOf]; omega⟩
        rcases Nat.lt_or_ge j i with h7 | h7
        · exact HE.out j y h7 h5
        · obtain rfl : j = i := by omega
          rw [HD.out] at h5; cases h5; exact HQ.out
    · obtain rfl : i = n := by omega
      have HQ : Hid (decide (x ∈ l) = false) := decide_eq_false (fun hmem => by
        obtain ⟨j, hj⟩ := List.mem_iff_getElem?.1 hmem
        exact HE.out j x (by rw [← HL.out]; exact (List.getElem?_eq_some_iff.1 hj).1) hj rfl)
      clear hb
      go_wp2_with fail
      go_ret
      exact ⟨ret_b HQ.out.symm, HB.out⟩

set_option maxHeartbeats 4000000 in
theorem wWithin_any (w : World) (v v' : Value) (l l' : List (List Int)) (h : RdIntSS w v l) (h' : RdIntSS w v' l') :
    Calls Tryz.prog 45 #[v, v'] w (GaveBool w (decide (∀ x ∈ l, x ∈ l'))) := by
  have HX := Lib.hid h'
  obtain ⟨a, n, c, rfl, h⟩ := h
  obtain ⟨xa, xn, xc, rfl, _⟩ := h'
  obtain ⟨hl, hn, hm, hcell⟩ := h.at
  unfold maxLen at hm
  have HC := Lib.hid hcell
  have HL := Lib.hid hl
  have hEq := Lib.hid (fun w v vx l x h hx => wHas_any w v vx l x h hx)
  clear h hcell hl
  go_enter Tryz.func45, Tryz.ntmps45
  go_wp2_with fail
  go_loopw [5] (fun iv wr => ∃ i : Nat, i ≤ n ∧ iv = .int .i64 i ∧ Below w.heap.size w wr ∧ Hid (∀ (j : Nat) (y : List Int), j < i → l[j]? = some y → y ∈ l')) (fun iv _ => n - (intOf iv).toNat)
  case atStart => exact ⟨0, by omega, rfl, Below.refl _ _, fun j y hj => by omega⟩
  case round =>
    obtain ⟨i, hi, rfl, hb, HE⟩ := hrel
    have HB := Lib.hid hb
    by_cases hlt : i < n
    · obtain ⟨b, off, rfl, hbw, hc⟩ := HC.out (by omega)
      obtain ⟨d, hd⟩ : ∃ d, l[i]? = some d := ⟨l[i]'(by rw [HL.out]; exact hlt), List.getElem?_eq_getElem (by rw [HL.out]; exact hlt)⟩
      obtain ⟨ea, em, ec, c1, hints⟩ := intsAt (n := n) hc i d hd
      have k1 := cellk hb c1
      have HD := Lib.hid hd
      have hi0 : (0 : Int) ≤ i := by omega
      have hi1 : (i : Int) < n := by omega
      have hcall := Lib.hid (hEq.out wr (.slice xa xn xc) (.slice ea em ec) l' d (RdIntSS.below HX.out hb) (hints.below hb))
      clear hc hbw hb hd hints c1
      by_cases heq : d ∈ l'
      · have HQ := Lib.hid heq
        rw [decide_eq_true heq] at hcall
        clear heq
        go_wp2_with fail
        refine hcall.out.mono ?_
        rintro e w1 ⟨rfl, hb⟩
        have HB1 := Lib.hid (bnext HB.out hb)
        clear hb k1
        go_wp2_with fail
        refine ⟨⟨i + 1, by omega, by simp, HB1.out, fun j y hj h5 => ?_⟩, by simp [intOf]; omega⟩
        rcases Nat.lt_or_ge j i with h7 | h7
        · exact HE.out j y h7 h5
        · obtain rfl : j = i := by omega
          rw [HD.out] at h5; cases h5; exact HQ.out
      · have HQ : Hid (decide (∀ x ∈ l, x ∈ l') = false) := decide_eq_false (fun h => heq (h d (List.mem_of_getElem? HD.out)))
        rw [decide_eq_false heq] at hcall
        clear heq
        go_wp2_with fail
        refine hcall.out.mono ?_
        rintro e w1 ⟨rfl, hb⟩
        have HB1 := Lib.hid (bnext HB.out hb)
        clear hb k1
        go_wp2_with fail
        go_ret
        exact ⟨ret_b HQ.out.symm, HB1.out⟩
    · obtain rfl : i = n := by omega
      have HQ : Hid (decide (∀ x ∈ l, x ∈ l') = true) := decide_eq_true (fun x hmem => by
        obtain ⟨j, hj⟩ := List.mem_iff_getElem?.1 hmem
        exact HE.out j x (by rw [← HL.out]; exact (List.getElem?_eq_some_iff.1 hj).1) hj)
      clear hb
      go_wp2_with fail
      go_ret
      exact ⟨ret_b HQ.out.symm, HB.out⟩
end Go.Proofs.YtfojllkkbdpfkaaGreat

/-! CFnContainment -/
namespace Go.Proofs.YtfojllkkbdpfkaaGreat
open Go Go.Sort Go.RowKit
set_option linter.unusedVariables false

theorem bigC_any (w : World) (a : Option Addr) (len cap : Nat) :
    Calls Tryz.prog 39 #[.slice a len cap] w (fun e w' => e = .returned (.bool (decide ((1048576 : Int) < (len : Int)))) ∧ w' = w) := by
  go_enter Tryz.func39, Tryz.ntmps39
  go_wp2_with fail
  go_ret
  exact ⟨rfl, rfl⟩
theorem rdIntS_intsC {w : World} {v : Value} {l : List Int} (h : RdIntS w v l) : Ints w v l := by
  obtain ⟨_, _, _, rfl, h⟩ := h; exact h
theorem ceB_eq (s : List Int) (a b : QueryD) : ceB s a b = ((fineB s a 4 && fineB s b 4 && decide (a.1.length = b.1.length)) && !conB8 s a b) := by
  unfold ceB
  cases fineB s a 4 <;> cases fineB s b 4 <;> simp

set_option maxRecDepth 100000 in
set_option maxHeartbeats 16000000 in
theorem core_FnContainment (w : World) (ca : Option Addr) (len cap : Nat) (hA : Arg w (.slice ca len cap) len) :
    Calls Tryz.prog 7 #[.slice ca len cap] w (GaveBool w true) := by
  have hbg := Lib.hid (fun w => bigC_any w ca len cap)
  have HA := Lib.hid hA
  by_cases hbig : (1048576 : Int) < (len : Int)
  · rw [decide_eq_true hbig] at hbg
    clear hA hbig
    go_enter Tryz.func7, Tryz.ntmps7
    go_wp2_with fail
    refine (hbg.out w).mono ?_
    rintro e w1 ⟨rfl, rfl⟩
    go_wp2_with fail
    go_ret
    exact ⟨rfl, Below.refl _ _⟩
  rw [decide_eq_false hbig] at hbg
  have hd1 := Lib.hid (fun w h => drawIsContained_any w (.slice ca len cap) len h)
  have hd2 := Lib.hid (fun w h => drawAnswers_any w (.slice ca len cap) len h)
  have hsi := Lib.hid (fun w v v' l l' h h' => wWithin_any w v v' l l' h h')
  clear hA hbig
  go_enter Tryz.func7, Tryz.ntmps7
  go_wp2_with fail
  refine (hbg.out w).mono ?_
  rintro e w1 ⟨rfl, rfl⟩
  go_wp2_with fail
  refine (hd1.out _ HA.out).mono ?_
  rintro e w2 ⟨sv, s, q1, a, q2, b, rfl, hs, hs5, hq1, hqa, hq2, hqb, hb2⟩
  have HS2 := Lib.hid hs
  have HA2 := Lib.hid hq1
  have HB2 := Lib.hid hq2
  obtain ⟨xa, xn, xc, rfl, _⟩ := hs
  obtain ⟨aa, an, ac, ba, bn, bc, rfl, hia, _⟩ := hq1
  obtain ⟨ya, yn, yc, za, zn, zc, rfl, hib, _⟩ := hq2
  obtain ⟨_, _, e1⟩ := hia.form
  cases e1
  obtain ⟨_, _, e1⟩ := hib.form
  cases e1
  obtain ⟨an, han⟩ : ∃ n, a.1.length = n := ⟨_, rfl⟩
  obtain ⟨yn, hyn⟩ : ∃ n, b.1.length = n := ⟨_, rfl⟩
  have HAN := Lib.hid han
  have HYN := Lib.hid hyn
  rw [han] at HA2 hia ⊢
  rw [hyn] at HB2 hib ⊢
  have HZA : Hid (sizeAtomS a.2 ≤ 1048576 ∧ a.1.length ≤ 1048576) := ⟨by have := hqa.size; omega, by have := hqa.1; omega⟩
  have HZB : Hid (sizeAtomS b.2 ≤ 1048576 ∧ b.1.length ≤ 1048576) := ⟨by have := hqb.size; omega, by have := hqb.1; omega⟩
  obtain ⟨w3, hw3⟩ : ∃ x, x = (((w2.alloc (.cells #[.slice xa xn xc] 34)).alloc (.cells #[.slice aa an ac, .slice ba bn bc] 38)).alloc (.cells #[.slice ya yn yc, .slice za zn zc] 38)) := ⟨_, rfl⟩
  have hbb : Below w2.heap.size w2 w3 := by rw [hw3]; exact (((Below.refl _ _).alloc (Nat.le_refl _) _).alloc (by simp) _).alloc (by simp; omega) _
  obtain ⟨f1, hf1⟩ : ∃ r, r = w2.heap.size := ⟨_, rfl⟩
  obtain ⟨f2, hf2⟩ : ∃ r, r = w2.heap.size + 1 := ⟨_, rfl⟩
  obtain ⟨f3, hf3⟩ : ∃ r, r = w2.heap.size + 1 + 1 := ⟨_, rfl⟩
  have c1 : w3.cell? ⟨f1, 0, none⟩ = some (.slice xa xn xc) := by rw [hw3, hf1]; exact box1 w2 _ _ _ _ 0 _ rfl
  have c2 : w3.cell? ⟨f2, 0, none⟩ = some (.slice aa an ac) := by rw [hw3, hf2]; exact box2 w2 _ _ _ _ 0 _ rfl
  have c3 : w3.cell? ⟨f2, 1, none⟩ = some (.slice ba bn bc) := by rw [hw3, hf2]; exact box2 w2 _ _ _ _ 1 _ rfl
  have c4 : w3.cell? ⟨f3, 0, none⟩ = some (.slice ya yn yc) := by rw [hw3, hf3]; exact box3 w2 _ _ _ _ 0 _ rfl
  have c5 : w3.cell? ⟨f3, 1, none⟩ = some (.slice za zn zc) := by rw [hw3, hf3]; exact box3 w2 _ _ _ _ 1 _ rfl
  have HB3 := Lib.hid (bnext hb2 hbb)
  have HCL := Lib.hid (fun W (hb : Below w3.heap.size w3 W) => (⟨cellk hb c1, cellk hb c2, cellk hb c3, cellk hb c4, cellk hb c5⟩ : W.cell? ⟨f1, 0, none⟩ = some (.slice xa xn xc) ∧ W.cell? ⟨f2, 0, none⟩ = some (.slice aa an ac) ∧ W.cell? ⟨f2, 1, none⟩ = some (.slice ba bn bc) ∧ W.cell? ⟨f3, 0, none⟩ = some (.slice ya yn yc) ∧ W.cell? ⟨f3, 1, none⟩ = some (.slice za zn zc)))
  have RS := Lib.hid (fun W (hb : Below w3.heap.size w3 W) => RdSchema.below HS2.out (bnext hbb hb))
  have RA := Lib.hid (fun W (hb : Below w3.heap.size w3 W) => RdQuery.below HA2.out (bnext hbb hb))
  have RB := Lib.hid (fun W (hb : Below w3.heap.size w3 W) => RdQuery.below HB2.out (bnext hbb hb))
  have ICON := Lib.hid (fun W (hb : Below w3.heap.size w3 W) => iContained_any W _ _ _ s a b (RS.out W hb) (RA.out W hb) (RB.out W hb) HZA.out.1 HZB.out.1)
  have ICOB := Lib.hid (fun W (hb : Below w3.heap.size w3 W) => iContained_any W _ _ _ s b a (RS.out W hb) (RB.out W hb) (RA.out W hb) HZB.out.1 HZA.out.1)
  have SCON := Lib.hid (fun W (hb : Below w3.heap.size w3 W) => sContained_any W _ _ _ s a b (RS.out W hb) (RA.out W hb) (RB.out W hb) HZA.out.1 HZB.out.1)
  have IEQU := Lib.hid (fun W (hb : Below w3.heap.size w3 W) => iEquivalent_any W _ _ _ s a b (RS.out W hb) (RA.out W hb) (RB.out W hb) HZA.out.1 HZB.out.1)
  have ICEX := Lib.hid (fun W (hb : Below w3.heap.size w3 W) => iCounter_any W _ _ _ s a b (RS.out W hb) (RA.out W hb) (RB.out W hb) HZA.out.1 HZB.out.1)
  have SANA := Lib.hid (fun W vd db (hb : Below w3.heap.size w3 W) (hd : RdAtomS W vd db) => sAnswers_any W _ _ vd s a db (RS.out W hb) (RA.out W hb) hd HZA.out.1 HZA.out.2)
  have SANB := Lib.hid (fun W vd db (hb : Below w3.heap.size w3 W) (hd : RdAtomS W vd db) => sAnswers_any W _ _ vd s b db (RS.out W hb) (RB.out W hb) hd HZB.out.1 HZB.out.2)
  have SQA := Lib.hid (fun W (hb : Below w3.heap.size w3 W) => sIsQuery_any W _ _ s a (RS.out W hb) (RA.out W hb) HZA.out.1)
  have SQB := Lib.hid (fun W (hb : Below w3.heap.size w3 W) => sIsQuery_any W _ _ s b (RS.out W hb) (RB.out W hb) HZB.out.1)
  have SISA := Lib.hid (fun W vd vt db t (hb : Below w3.heap.size w3 W) (hd : RdAtomS W vd db) (ht : Ints W vt t) => sIsAnswer_any W _ _ vd vt s a db t (RS.out W hb) (RA.out W hb) hd ht HZA.out.1 HZA.out.2)
  have SISB := Lib.hid (fun W vd vt db t (hb : Below w3.heap.size w3 W) (hd : RdAtomS W vd db) (ht : Ints W vt t) => sIsAnswer_any W _ _ vd vt s b db t (RS.out W hb) (RB.out W hb) hd ht HZB.out.1 HZB.out.2)
  have IISA := Lib.hid (fun W vd vt db t (hb : Below w3.heap.size w3 W) (hd : RdAtomS W vd db) (ht : Ints W vt t) (hz : sizeAtomS db ≤ 1048576) => iIsAnswer_any W _ _ vd vt s a db t (RS.out W hb) (RA.out W hb) hd ht HZA.out.1 hz)
  have HW3 := Lib.hid hw3
  have HF1 := Lib.hid hf1
  have HF2 := Lib.hid hf2
  have HF3 := Lib.hid hf3
  clear hb2 hbb hs5 hqa hqb hia hib han hyn hw3 hf1 hf2 hf3
  go_wp2_with fail
  rw [← HF3.out, ← HF2.out, ← HF1.out, ← HW3.out]
  clear HF1 HF2 HF3 HW3
  refine (ICON.out w3 (Below.refl _ _)).mono ?_
  rintro e w4 ⟨rfl, hb⟩
  have HB4 := Lib.hid hb
  clear c1 c2 c3 c4 c5 hb
  obtain ⟨c1, c2, c3, c4, c5⟩ := HCL.out _ HB4.out
  obtain ⟨c, hc⟩ : ∃ c, conB8 s a b = c := ⟨_, rfl⟩
  have HCC := Lib.hid hc
  rw [hc] at SCON IEQU ⊢
  clear hc
  go_upto_region 5 with fail
  go_cut [45] (fun q45 wx => q45 = .bool false ∧ Below w3.heap.size w3 wx)
  case first =>
    cases c with
    | true =>
      obtain ⟨cb, hcb⟩ : ∃ x, conB8 s b a = x := ⟨_, rfl⟩
      rw [hcb] at IEQU ICOB
      cases cb
      all_goals
        clear hcb
        go_wp2_with fail
        refine (SCON.out w4 HB4.out).mono ?_
        rintro e w5 ⟨rfl, hb⟩
        have HB5 := Lib.hid (bnext HB4.out hb)
        clear hb
        clear c1 c2 c3 c4 c5
        obtain ⟨c1, c2, c3, c4, c5⟩ := HCL.out _ HB5.out
        go_wp2_with fail
        refine (IEQU.out w5 HB5.out).mono ?_
        rintro e w6 ⟨rfl, hb⟩
        have HB6 := Lib.hid (bnext HB5.out hb)
        clear hb
        clear c1 c2 c3 c4 c5
        obtain ⟨c1, c2, c3, c4, c5⟩ := HCL.out _ HB6.out
        go_wp2_with fail
        refine (ICOB.out w6 HB6.out).mono ?_
        rintro e w7 ⟨rfl, hb⟩
        have HB7 := Lib.hid (bnext HB6.out hb)
        clear hb
        go_wp2_with fail
        go_meet
        exact ⟨rfl, HB7.out⟩
    | false =>
      go_wp2_with fail
      refine (SCON.out w4 HB4.out).mono ?_
      rintro e w5 ⟨rfl, hb⟩
      have HB5 := Lib.hid (bnext HB4.out hb)
      clear hb
      clear c1 c2 c3 c4 c5
      obtain ⟨c1, c2, c3, c4, c5⟩ := HCL.out _ HB5.out
      go_wp2_with fail
      refine (IEQU.out w5 HB5.out).mono ?_
      rintro e w6 ⟨rfl, hb⟩
      have HB6 := Lib.hid (bnext HB5.out hb)
      clear hb
      go_wp2_with fail
      go_meet
      exact ⟨rfl, HB6.out⟩
  case rest =>
    obtain ⟨rfl, hb⟩ := hcut
    obtain ⟨w7, hw7⟩ : ∃ x, x = wc := ⟨_, rfl⟩
    subst hw7
    have HBc := Lib.hid hb
    clear hb
    have hbc3 := bnext HB3.out HBc.out
    clear c1 c2 c3 c4 c5 HB4
    go_wp2_with fail
    refine (hd2.out _ (HA.out.below hbc3)).mono ?_
    rintro e w8 ⟨sv2, s2, q3, d3, dv, db, rfl, hs2, _, hq3, _, hdb, _, _, hb⟩
    obtain ⟨ea, en, ec, rfl, _⟩ := hs2
    obtain ⟨ga, gn, gc, ha, hn, hc, rfl, _, _⟩ := hq3
    have HDB8 := Lib.hid hdb
    obtain ⟨va, vn, vc, rfl, _⟩ := hdb
    obtain ⟨w9, hw9⟩ : ∃ x, x = (w8.alloc (.cells #[.slice ea en ec] 34)).alloc (.cells #[.slice ga gn gc, .slice ha hn hc] 38) := ⟨_, rfl⟩
    have hbb : Below w8.heap.size w8 w9 := by rw [hw9]; exact ((Below.refl _ _).alloc (Nat.le_refl _) _).alloc (by simp) _
    have HB9 := Lib.hid (bnext HBc.out (bnext hb hbb))
    have HDB9 := Lib.hid (RdAtomS.below HDB8.out hbb)
    obtain ⟨f4, hf4⟩ : ∃ r, r = w8.heap.size := ⟨_, rfl⟩
    obtain ⟨f5, hf5⟩ : ∃ r, r = w8.heap.size + 1 := ⟨_, rfl⟩
    have HW9 := Lib.hid hw9
    have HF4 := Lib.hid hf4
    have HF5 := Lib.hid hf5
    clear hb hbb hw9 hbc3 HDB8 hf4 hf5
    go_upto_region 8 with fail
    rw [← HF5.out, ← HF4.out, ← HW9.out]
    clear HF4 HF5 HW9
    go_cut [64] (fun q64 wx => q64 = .bool false ∧ Below w9.heap.size w9 wx)
    case first =>
      obtain ⟨c1, c2, c3, c4, c5⟩ := HCL.out _ HB9.out
      cases c with
      | true =>
        have HSUB : Hid (∀ x ∈ answersN s a db, x ∈ answersN s b db) := fun x hx => cont_sub8 HCC.out hx
        have HDRW := Lib.hid (Below.refl w9.heap.size w9).drew
        have HBD := Lib.hid (bnext HB9.out HDRW.out)
        have HDD := Lib.hid (RdAtomS.below HDB9.out HDRW.out)
        obtain ⟨d1, d2, d3, d4, d5⟩ := HCL.out _ HBD.out
        go_region_held3 (fun w' => w'.cell? ⟨f1, 0, none⟩ = some (.slice xa xn xc) ∧ w'.cell? ⟨f2, 0, none⟩ = some (.slice aa an ac) ∧ w'.cell? ⟨f2, 1, none⟩ = some (.slice ba bn bc) ∧ w'.cell? ⟨f3, 0, none⟩ = some (.slice ya yn yc) ∧ w'.cell? ⟨f3, 1, none⟩ = some (.slice za zn zc) ∧ Below w9.heap.size w9 w')
          ((first | with_reducible exact ⟨n1, n2, n3, n4, n5, HEx.out⟩ | with_reducible exact ⟨m1, m2, m3, m4, m5, HEb.out⟩ | with_reducible exact ⟨k1, k2, k3, k4, k5, HEa.out⟩ | with_reducible exact ⟨d1, d2, d3, d4, d5, HDRW.out⟩))
          (first
          | (go_simp; go_at_call 26; (with_reducible refine (SANA.out _ _ db HBD.out HDD.out).mono ?_); rintro e2 wa ⟨ra, bsa, rfl, hoa, hfa, hba⟩; have HEa := Lib.hid (bnext HDRW.out hba); have HBa := Lib.hid (bnext HB9.out HEa.out); have HRa := Lib.hid (ROIntSS.rd hoa); have HDa := Lib.hid (RdAtomS.below HDD.out hba); obtain ⟨k1, k2, k3, k4, k5⟩ := HCL.out _ HBa.out; clear hoa hfa hba)
          | (go_simp; go_at_call 26; (with_reducible refine (SANB.out _ _ db HBa.out HDa.out).mono ?_); rintro e3 wb ⟨rb, bsb, rfl, hob, hfb, hbb⟩; have HEb := Lib.hid (bnext HEa.out hbb); have HRb := Lib.hid (ROIntSS.rd hob); have HRa2 := Lib.hid (RdIntSS.below HRa.out hbb); obtain ⟨m1, m2, m3, m4, m5⟩ := HCL.out _ (bnext HB9.out HEb.out); clear hob hfb hbb)
          | (go_simp; go_at_call 45; (with_reducible refine (hsi.out _ _ _ _ _ HRa2.out HRb.out).mono ?_); rintro e4 wx ⟨rfl, hbx⟩; rw [decide_eq_true HSUB.out]; have HEx := Lib.hid (bnext HEb.out hbx); obtain ⟨n1, n2, n3, n4, n5⟩ := HCL.out _ (bnext HB9.out HEx.out); clear hbx))
        all_goals (go_wp2_with fail)
        all_goals go_meet
        all_goals exact ⟨rfl, HEx.out⟩
      | false =>
        refine wp_region_quiet_below (by kernel_rfl) (by kernel_rfl) ?_
        repeat (any_goals (first | go_big_quiet_step (fail) | quiet_step (fail)))
        refine wpQuiet_nil ?_
        intro _ hw'
        obtain ⟨⟨dq, osq⟩, hw''⟩ := hw'
        subst hw''
        go_wp2_with fail
        go_meet
        exact ⟨rfl, below_regrown _ _ _⟩
    case rest =>
      obtain ⟨rfl, hb⟩ := hcut
      obtain ⟨wx, hwx⟩ : ∃ x, x = wc := ⟨_, rfl⟩
      subst hwx
      have HBx := Lib.hid (bnext HB9.out hb)
      obtain ⟨c1, c2, c3, c4, c5⟩ := HCL.out _ HBx.out
      obtain ⟨fa, hfa⟩ : ∃ x, fineB s a 4 = x := ⟨_, rfl⟩
      obtain ⟨fb, hfb⟩ : ∃ x, fineB s b 4 = x := ⟨_, rfl⟩
      obtain ⟨fl, hfl⟩ : ∃ x, decide (an = yn) = x := ⟨_, rfl⟩
      have HCE : Hid (ceB s a b = ((fa && fb && fl) && !c)) := by unfold Hid; rw [ceB_eq, hfa, hfb, HCC.out, HAN.out, HYN.out, hfl]
      have HFA := Lib.hid hfa
      have HFB := Lib.hid hfb
      rw [hfa] at SQA
      rw [hfb] at SQB
      have HCX := Lib.hid (ICEX.out _ HBx.out)
      rw [HCE.out] at HCX
      clear hb hfa hfb
      go_wp2_with fail
      refine HCX.out.mono ?_
      rintro e w10 ⟨r0, r1, bs0, bs1, rfl, ho0, ho1, hfr, hb⟩
      have HB10 := Lib.hid (bnext HBx.out hb)
      have HR0 := Lib.hid ho0.rd
      have HR1 := Lib.hid (rdIntS_intsC ho1.rd)
      clear ho0 ho1 hfr hb c1 c2 c3 c4 c5 HCX
      obtain ⟨c1, c2, c3, c4, c5⟩ := HCL.out _ HB10.out
      obtain ⟨fd, hfd⟩ : ∃ x, ((fa && fb && fl) && !c) = x := ⟨_, rfl⟩
      rw [hfd]
      have HFD := Lib.hid hfd
      clear hfd
      go_upto_region 11 with fail
      go_cut [13] (fun q13 wx => q13 = .bool (fa && fb && fl) ∧ Below w10.heap.size w10 wx)
      case first =>
        cases fa with
        | false =>
          go_wp2_with fail
          refine (SQA.out w10 HB10.out).mono ?_
          rintro e w11 ⟨rfl, hb⟩
          have HB11 := Lib.hid hb
          clear hb
          go_wp2_with fail
          go_meet
          exact ⟨by simp, HB11.out⟩
        | true =>
          cases fb with
          | false =>
            go_wp2_with fail
            refine (SQA.out w10 HB10.out).mono ?_
            rintro e w11 ⟨rfl, hb⟩
            have HB11 := Lib.hid hb
            have HB11b := Lib.hid (bnext HB10.out hb)
            clear hb c1 c2 c3 c4 c5
            obtain ⟨c1, c2, c3, c4, c5⟩ := HCL.out _ HB11b.out
            go_wp2_with fail
            refine (SQB.out w11 HB11b.out).mono ?_
            rintro e w12 ⟨rfl, hb⟩
            have HB12 := Lib.hid (bnext HB11.out hb)
            clear hb
            go_wp2_with fail
            go_meet
            exact ⟨by simp, HB12.out⟩
          | true =>
            have HFL := Lib.hid hfl
            by_cases hl : an = yn
            · have hfl2 : fl = true := by rw [← HFL.out]; exact decide_eq_true hl
              subst hfl2
              subst hl
              clear hfl
              go_wp2_with fail
              refine (SQA.out w10 HB10.out).mono ?_
              rintro e w11 ⟨rfl, hb⟩
              have HB11 := Lib.hid hb
              have HB11b := Lib.hid (bnext HB10.out hb)
              clear hb c1 c2 c3 c4 c5
              obtain ⟨c1, c2, c3, c4, c5⟩ := HCL.out _ HB11b.out
              go_wp2_with fail
              refine (SQB.out w11 HB11b.out).mono ?_
              rintro e w12 ⟨rfl, hb⟩
              have HB12 := Lib.hid (bnext HB11.out hb)
              have HB12b := Lib.hid (bnext HB11b.out hb)
              clear hb c1 c2 c3 c4 c5
              obtain ⟨c1, c2, c3, c4, c5⟩ := HCL.out _ HB12b.out
              go_wp2_with fail
              go_meet
              exact ⟨by simp, HB12.out⟩
            · have hfl2 : fl = false := by rw [← HFL.out]; exact decide_eq_false hl
              subst hfl2
              have hli : ¬ (an : Int) = yn := by omega
              clear hfl
              go_wp2_with fail
              refine (SQA.out w10 HB10.out).mono ?_
              rintro e w11 ⟨rfl, hb⟩
              have HB11 := Lib.hid hb
              have HB11b := Lib.hid (bnext HB10.out hb)
              clear hb c1 c2 c3 c4 c5
              obtain ⟨c1, c2, c3, c4, c5⟩ := HCL.out _ HB11b.out
              go_wp2_with fail
              refine (SQB.out w11 HB11b.out).mono ?_
              rintro e w12 ⟨rfl, hb⟩
              have HB12 := Lib.hid (bnext HB11.out hb)
              have HB12b := Lib.hid (bnext HB11b.out hb)
              clear hb c1 c2 c3 c4 c5
              obtain ⟨c1, c2, c3, c4, c5⟩ := HCL.out _ HB12b.out
              go_wp2_with fail
              go_meet
              exact ⟨by simp; omega, HB12.out⟩
      case rest =>
        obtain ⟨rfl, hb⟩ := hcut
        obtain ⟨w13, hw13⟩ : ∃ x, x = wc := ⟨_, rfl⟩
        subst hw13
        have HB13 := Lib.hid (bnext HB10.out hb)
        have HBW := Lib.hid (bnext HB3.out HB13.out)
        have HR0x := Lib.hid (RdAtomS.below HR0.out hb)
        have HR1x := Lib.hid (HR1.out.below hb)
        clear hb c1 c2 c3 c4 c5 hfl
        obtain ⟨c1, c2, c3, c4, c5⟩ := HCL.out _ HB13.out
        obtain ⟨F, hF⟩ : ∃ x, (fa && fb && fl) = x := ⟨_, rfl⟩
        rw [hF] at HFD
        have HFF := Lib.hid hF
        rw [hF]
        clear hF
        have hfd2 : fd = (F && !c) := HFD.out.symm
        cases F with
        | false =>
          have hfd3 : fd = false := hfd2
          subst hfd3
          clear hfd2
          cases c
          all_goals
            go_wp2_with fail
            go_ret
            exact ⟨rfl, HBW.out⟩
        | true =>
          cases c with
          | true =>
            have hfd3 : fd = false := hfd2
            subst hfd3
            clear hfd2
            go_wp2_with fail
            go_ret
            exact ⟨rfl, HBW.out⟩
          | false =>
            have hfd3 : fd = true := hfd2
            subst hfd3
            clear hfd2
            have HCEY : Hid (ceB s a b = true) := by unfold Hid; rw [HCE.out, HFF.out]; rfl
            have HFAT : Hid (fineB s a 4 = true ∧ fineB s b 4 = true) := by
              have h1 := HFF.out
              rw [Bool.and_eq_true, Bool.and_eq_true] at h1
              exact ⟨by rw [HFA.out]; exact h1.1.1, by rw [HFB.out]; exact h1.1.2⟩
            rw [ceDb_yes HCEY.out] at HR0x
            rw [ceHd_yes HCEY.out] at HR1x
            have HDZ : Hid (sizeAtomS (frzDb a) ≤ 1048576) := Lib.hid (by have := size_le3 (frzDb_3 a); have := frzDb_8 a; omega)
            have m1 : decide (frzHd a ∈ answersN s a (frzDb a)) = true := decide_eq_true (frz_ans HFAT.out.1)
            have m2 : decide (frzHd a ∈ answersN s b (frzDb a)) = false := decide_eq_false (fun h => by
              have h1 := ce_con8 HFAT.out.1 HFAT.out.2 h
              rw [HCC.out] at h1; cases h1)
            have m3 : isAnsI s a (frzDb a) (frzHd a) = true := by rw [← isAns_eq]; exact m1
            have HC1 := Lib.hid (fun W (hb : Below w13.heap.size w13 W) => SISA.out W _ _ _ _ (bnext HB13.out hb) (RdAtomS.below HR0x.out hb) (HR1x.out.below hb))
            have HC2 := Lib.hid (fun W (hb : Below w13.heap.size w13 W) => SISB.out W _ _ _ _ (bnext HB13.out hb) (RdAtomS.below HR0x.out hb) (HR1x.out.below hb))
            have HC3 := Lib.hid (fun W (hb : Below w13.heap.size w13 W) => IISA.out W _ _ _ _ (bnext HB13.out hb) (RdAtomS.below HR0x.out hb) (HR1x.out.below hb) HDZ.out)
            rw [m1] at HC1
            rw [m2] at HC2
            rw [m3] at HC3
            clear m1 m2 m3
            go_wp2_with fail
            refine (HC1.out _ (Below.refl _ _)).mono ?_
            rintro e w14 ⟨rfl, hb⟩
            have HB14 := Lib.hid hb
            clear c1 c2 c3 c4 c5 hb
            obtain ⟨c1, c2, c3, c4, c5⟩ := HCL.out _ (bnext HB13.out HB14.out)
            go_wp2_with fail
            refine (HC2.out _ HB14.out).mono ?_
            rintro e w15 ⟨rfl, hb⟩
            have HB15 := Lib.hid (bnext HB14.out hb)
            clear c1 c2 c3 c4 c5 hb
            obtain ⟨c1, c2, c3, c4, c5⟩ := HCL.out _ (bnext HB13.out HB15.out)
            go_wp2_with fail
            refine (HC3.out _ HB15.out).mono ?_
            rintro e w16 ⟨rfl, hb⟩
            have HB16 := Lib.hid (bnext HBW.out (bnext HB15.out hb))
            clear hb
            go_wp2_with fail
            go_ret
            exact ⟨rfl, HB16.out⟩
end Go.Proofs.YtfojllkkbdpfkaaGreat
