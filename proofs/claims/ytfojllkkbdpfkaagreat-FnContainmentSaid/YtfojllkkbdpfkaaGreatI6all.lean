/- Merged of I6val, I6nob, I6tup, I6meet, I6ext, I6each, I6round, I6isans. -/
import Derived.Test.YtfojllkkbdpfkaaGreatTerm
import Derived.Test.YtfojllkkbdpfkaaGreatBase
import Derived.Deep.WholeRow
import Derived.Lib.QuietBelow
import Derived.Test.YtfojllkkbdpfkaaGreatIcAll
import Derived.Test.YtfojllkkbdpfkaaGreatLawK
import Derived.Laws.ResultCell
import Derived.StillTailTactics
import Derived.RangeFuncNested
import Derived.RangeFuncBound
import Derived.RangeFuncCalls
import Derived.RangeFuncLeaves
import Derived.Shelf.Abstract
import Derived.Shelf.RegionOpen
import Derived.WalkKit
import Derived.OwnWalkIn
import Derived.TacticsInMore
import Derived.LoopNIn
import Derived.LoopIn
import Derived.Deep.RegionHeld3
import Derived.Deep.MidRow
import Derived.Test.YtfojllkkbdpfkaaGreatAtomK
import Derived.Test.YtfojllkkbdpfkaaGreatSfact
import Derived.Test.YtfojllkkbdpfkaaGreatIrAll
import Derived.Test.YtfojllkkbdpfkaaGreatI5fd
import Derived.Deep.RegionLaw
import Derived.OrdersIn
import Derived.Orders
/-! I6val -/
namespace Go.Proofs.YtfojllkkbdpfkaaGreat
open Go Go.Sort Go.RowKit
set_option linter.unusedVariables false

/-- The cells of a binding. -/
def bA (b : List Int) : Array Value := (b.map (Value.int .i64)).toArray
def bV (b : List Int) : Value := .agg (bA b)
/-- Twenty numbers. -/
def OkB (b : List Int) : Prop := b.length = 20 ∧ ∀ x ∈ b, inI x
theorem bA_size {b : List Int} (h : OkB b) : (bA b).size = 20 := by simp [bA, h.1]
theorem bA_one (b : List Int) : (bA b).all (·.oneCell') = true :=
  Array.all_eq_true_iff_forall_mem.2 (fun v hv => by
    simp [bA] at hv
    obtain ⟨x, _, rfl⟩ := hv
    rfl)
theorem bA_get {b : List Int} {j : Nat} (h : j < b.length) : (bA b)[j]? = some (.int .i64 (b.getD j 0)) := by
  simp [bA, List.getD, List.getElem?_eq_getElem h]
theorem info_b : (Tryz.prog.info? 89).map (·.size) = some 20 := by kernel_rfl

/-- The value of a term in a binding. -/
def valD (b : List Int) (t : Int) : Int := if varB t then b.getD t.toNat 0 else conOf t
/-- An array of n numbers out of its block. -/
theorem wpList_load_a {ops : Array Oper} {rest : List Oper} {o : Oper} {a : Act} {w : World} {Q : Exit → Act → World → Prop} {T e : TypeId} {n : Nat} (hu : Tryz.prog.underlying T = some (.array n e)) (hi : (Tryz.prog.info? T).map (·.size) = some n) (hgd : o.guard = none) (x : Operand) (ho : o.op = .load T x)
    (g : Nat) (b : List Int) (hok : b.length = n) (hx : a.eval x = .pointer (some ⟨g, 0, none⟩)) (hg : w.heap[g]? = some (.cells (bA b) T (0, 0)))
    (h : wpList Tryz.prog ops Q rest (a.put o.dst (bV b)) w) : wpList Tryz.prog ops Q (o :: rest) a w :=
  wpList_load_row hgd _ x ho g hx _ (bA b) (0, 0) _ hg hu rfl (by rw [show (bA b).size = n by simp [bA, hok]]; exact hi) h
/-- .. and into one. -/
theorem wpList_store_a {ops : Array Oper} {rest : List Oper} {o : Oper} {a : Act} {w : World} {Q : Exit → Act → World → Prop} {T : TypeId} {n : Nat} (hi : (Tryz.prog.info? T).map (·.size) = some n) (hgd : o.guard = none) (x y : Operand) (ho : o.op = .store T x y)
    (g : Nat) (b : List Int) (hok : b.length = n) (old : Array Value) (hsz : old.size = n) (hx : a.eval x = .pointer (some ⟨g, 0, none⟩)) (hy : a.eval y = bV b) (hg : w.heap[g]? = some (.cells old T (0, 0)))
    (h : wpList Tryz.prog ops Q rest (a.put o.dst undef) (w.setRow g (bA b))) : wpList Tryz.prog ops Q (o :: rest) a w :=
  wpList_plain hgd fun K hK => by
    have hbs : (bA b).size = n := by simp [bA, hok]
    unfold Oper.wp execOp
    have hr := run_storeVar_row (P := Tryz.prog) w g T T old (bA b) hg (by rw [hbs]; exact hi) (by rw [hsz, hbs]) (bA_one b)
    simp only [ho, hx, hy, bV, Instr.storeAt, Instr.sureAddr, Sem.run_bind, Sem.run_pure, Result.andThen_ok, hr]
    exact hK _ _ h
theorem wpList_load_b {ops : Array Oper} {rest : List Oper} {o : Oper} {a : Act} {w : World} {Q : Exit → Act → World → Prop} (hgd : o.guard = none) (x : Operand) (ho : o.op = .load 89 x)
    (g : Nat) (b : List Int) (hok : OkB b) (hx : a.eval x = .pointer (some ⟨g, 0, none⟩)) (hg : w.heap[g]? = some (.cells (bA b) 89 (0, 0)))
    (h : wpList Tryz.prog ops Q rest (a.put o.dst (bV b)) w) : wpList Tryz.prog ops Q (o :: rest) a w :=
  wpList_load_a Tryz.underlying89 info_b hgd x ho g b hok.1 hx hg h
theorem wpList_store_b {ops : Array Oper} {rest : List Oper} {o : Oper} {a : Act} {w : World} {Q : Exit → Act → World → Prop} (hgd : o.guard = none) (x y : Operand) (ho : o.op = .store 89 x y)
    (g : Nat) (b : List Int) (hok : OkB b) (old : Array Value) (hsz : old.size = 20) (hx : a.eval x = .pointer (some ⟨g, 0, none⟩)) (hy : a.eval y = bV b) (hg : w.heap[g]? = some (.cells old 89 (0, 0)))
    (h : wpList Tryz.prog ops Q rest (a.put o.dst undef) (w.setRow g (bA b))) : wpList Tryz.prog ops Q (o :: rest) a w :=
  wpList_store_a info_b hgd x y ho g b hok.1 old hsz hx hy hg h
theorem heap_setCell_at {w : World} {g i : Nat} {cs : Array Value} {T : TypeId} {fr : Nat × Nat} (h : w.heap[g]? = some (.cells cs T fr)) (v : Value) : (w.setCell ⟨g, i, none⟩ v).heap[g]? = some (.cells (cs.setIfInBounds i v) T fr) := by
  simp [World.setCell, Array.getElem?_modify, h]
theorem bA_set {b : List Int} (i : Nat) (x : Int) : (bA b).setIfInBounds i (.int .i64 x) = bA (b.set i x) := by
  unfold bA
  rw [List.setIfInBounds_toArray, List.map_set]
/-- What a cell of the block of such an array holds. -/
theorem cell_b {w : World} {g i : Nat} {b : List Int} {T : TypeId} (h : w.heap[g]? = some (.cells (bA b) T (0, 0))) (hi : i < b.length) : w.cell? ⟨g, i, none⟩ = some (.int .i64 (b.getD i 0)) := by
  rw [cell_of_row _ _ i (bA b) T (0, 0) h]; exact bA_get hi
theorem froz_b {w : World} {g i : Nat} {cs : Array Value} {T : TypeId} (h : w.heap[g]? = some (.cells cs T (0, 0))) : w.frozen? ⟨g, i, none⟩ = false := by
  simp [World.frozen?, h]
theorem OnlyAt.setRow (w : World) (g : Nat) (cs : Array Value) : OnlyAt [g] w (w.setRow g cs) :=
  ⟨rfl, rfl, rfl, by simp [World.setRow], fun k hk hn => by
    show (w.heap.modify g _)[k]? = _
    rw [Array.getElem?_modify, if_neg (fun e => hn (by simp [e]))]⟩

set_option maxHeartbeats 1000000 in
theorem iValue_any (w : World) (b : List Int) (t : Int) (hb : OkB b) (ht : inI t) :
    Calls Tryz.prog 117 #[bV b, .int .i64 t] w (fun e w' => e = .returned (.int .i64 (valD b t)) ∧ Below w.heap.size w w') := by
  have hV := Lib.hid (fun w => iIsVar_any t w)
  have hC := Lib.hid (fun w => iConstOf_any t w ht.1 ht.2)
  have HB := Lib.hid (fun o => below_alloc w o)
  unfold bV
  by_cases hv : 0 ≤ t ∧ t < 20
  · obtain ⟨k, rfl⟩ : ∃ k : Nat, t = k := ⟨t.toNat, by omega⟩
    have hk : k < 20 := by omega
    rw [varB_yes (by omega) (by omega)] at hV
    have HD : Hid (valD b k = b.getD k 0) := by unfold Hid valD; rw [varB_yes (by omega) (by omega)]; rfl
    have hc := bA_get (b := b) (j := k) (by rw [hb.1]; exact hk)
    have hcell : (w.alloc (.cells (bA b) 89)).cell? ⟨w.heap.size, k, none⟩ = some (.int .i64 (b.getD k 0)) := by
      rw [cell_of_row _ _ k (bA b) 89 (0, 0) (heap_alloc_new w _)]; exact hc
    generalize bA b = X at *
    generalize b.getD k 0 = y at *
    clear hc
    go_enter Tryz.func117, Tryz.ntmps117
    go_wp2_with fail
    refine (hV.out _).mono ?_
    rintro e w1 ⟨rfl, rfl⟩
    go_wp2_with fail
    go_ret
    exact ⟨ret_i64 HD.out.symm, HB.out _⟩
  · have hvf : varB t = false := varB_no (by omega)
    rw [hvf] at hV
    have HD : Hid (valD b t = conOf t) := by unfold Hid valD; rw [hvf]; rfl
    generalize bA b = X at *
    generalize conOf t = y at *
    clear hv hvf
    go_enter Tryz.func117, Tryz.ntmps117
    go_wp2_with fail
    refine (hV.out _).mono ?_
    rintro e w1 ⟨rfl, rfl⟩
    go_wp2_with fail
    refine (hC.out _).mono ?_
    rintro e w1 ⟨rfl, rfl⟩
    go_wp2_with fail
    go_ret
    exact ⟨ret_i64 HD.out.symm, HB.out _⟩
end Go.Proofs.YtfojllkkbdpfkaaGreat

/-! I6nob -/
namespace Go.Proofs.YtfojllkkbdpfkaaGreat
open Go Go.Sort Go.RowKit
set_option linter.unusedVariables false

/-- The first i are unbound. -/
def nob (i : Nat) : List Int := List.replicate i (-1) ++ List.replicate (20 - i) 0
theorem nob_ok {i : Nat} (h : i ≤ 20) : OkB (nob i) := by
  refine ⟨by simp [nob]; omega, fun x hx => ?_⟩
  rcases List.mem_append.1 hx with h1 | h1
  · rw [List.eq_of_mem_replicate h1]; unfold inI; omega
  · rw [List.eq_of_mem_replicate h1]; unfold inI; omega
theorem nob_set {i : Nat} (h : i < 20) : (bA (nob i)).setIfInBounds i (.int .i64 (-1)) = bA (nob (i + 1)) := by
  unfold bA nob
  rw [List.setIfInBounds_toArray]
  congr 1
  rw [List.map_append, List.map_replicate, List.map_replicate, List.map_append, List.map_replicate, List.map_replicate, List.set_append, if_neg (by simp), List.length_replicate, Nat.sub_self, show 20 - i = (20 - (i + 1)) + 1 by omega, List.replicate_succ, List.set_cons_zero, List.replicate_succ', List.append_assoc]
  rfl

set_option maxRecDepth 100000 in
set_option maxHeartbeats 1000000 in
theorem iNoBinding_any (w : World) :
    Calls Tryz.prog 109 #[] w (fun e w' => e = .returned (bV (nob 20)) ∧ Below w.heap.size w w') := by
  have HB := Lib.hid (fun o o' => (below_alloc w o).trans ((below_alloc _ o').mono (by simp) : Below w.heap.size _ _))
  go_enter Tryz.func109, Tryz.ntmps109
  go_wp2_with fail
  go_loopw [3] (fun iv wr => ∃ (i : Nat) (X : Array Value), i ≤ 20 ∧ iv = .int .i64 i ∧ wr = (w.alloc (.cells (bA (nob 0)) 89)).alloc (.cells X 89) ∧ Hid (X = bA (nob i))) (fun iv _ => 20 - (intOf iv).toNat)
  case atStart => exact ⟨0, bA (nob 0), by omega, rfl, rfl, rfl⟩
  case round =>
    obtain ⟨i, X, hi, rfl, rfl, HX⟩ := hrel
    by_cases hlt : i < 20
    · have hsz : Hid (X.size = 20) := by unfold Hid; rw [HX.out]; exact bA_size (nob_ok (by omega))
      have hi1 : (i : Int) < 20 := by omega
      have hi0 : (0 : Int) ≤ i := by omega
      have hX : i < X.size := by rw [hsz.out]; exact hlt
      clear hsz
      go_wp2_with fail
      refine ⟨⟨i + 1, X.setIfInBounds i (.int .i64 (-1)), by omega, by simp, by trivial, ?_⟩, by simp [intOf]; omega⟩
      unfold Hid
      rw [HX.out]; exact nob_set hlt
    · obtain rfl : i = 20 := by omega
      have hX := HX.out
      subst hX
      have hG : ((w.alloc (.cells (bA (nob 0)) 89)).alloc (.cells (bA (nob 20)) 89)).heap[w.heap.size + 1]? = some (.cells (bA (nob 20)) 89 (0, 0)) := by
        have := heap_alloc_new (w.alloc (.cells (bA (nob 0)) 89)) (.cells (bA (nob 20)) 89)
        simpa using this
      have hG0 : ((w.alloc (.cells (bA (nob 0)) 89)).alloc (.cells (bA (nob 20)) 89)).heap[w.heap.size]? = some (.cells (bA (nob 0)) 89 (0, 0)) := by
        exact (Below.heap_alloc _ _ _ (by simp)).trans (heap_alloc_new w _)
      have hok : OkB (nob 20) := nob_ok (Nat.le_refl _)
      have hsz0 : (bA (nob 0)).size = 20 := bA_size (nob_ok (Nat.zero_le _))
      go_wp2_with (first
        | ((with_reducible refine wpList_load_b rfl _ rfl _ _ hok ?_ hG ?_); · rfl)
        | ((with_reducible refine wpList_store_b rfl _ _ rfl _ _ hok _ hsz0 ?_ ?_ hG0 ?_); (focus rfl); (focus rfl)))
      refine bodyPost_ret (results_cell_row Tryz.results109 _ _ w.heap.size 89 (bA (nob 20)) (0, 0) _ rfl (setRow_heap _ _ _ _ _ _ hG0) Tryz.underlying89 rfl (by rw [bA_size hok]; exact info_b)) rfl ⟨rfl, ?_⟩
      exact OnlyAt.below (HB.out _ _) (OnlyAt.setRow _ _ _) (by simp)
end Go.Proofs.YtfojllkkbdpfkaaGreat

/-! I6tup -/
namespace Go.Proofs.YtfojllkkbdpfkaaGreat
open Go Go.Sort Go.RowKit
set_option linter.unusedVariables false

/-- Three numbers: those of l and zeros behind them. -/
def pad3 (l : List Int) (i : Nat) : List Int := l.take i ++ List.replicate (3 - i) 0
theorem pad3_len {l : List Int} {i : Nat} (h : i ≤ l.length) (h3 : i ≤ 3) : (pad3 l i).length = 3 := by simp [pad3]; omega
theorem pad3_set {l : List Int} {i : Nat} (h : i < l.length) (h3 : i < 3) : (pad3 l i).set i (l.getD i 0) = pad3 l (i + 1) := by
  unfold pad3
  rw [List.set_append, if_neg (by rw [List.length_take]; omega), List.length_take, Nat.min_eq_left (by omega), Nat.sub_self, show 3 - i = (3 - (i + 1)) + 1 by omega, List.replicate_succ, List.set_cons_zero, List.take_succ_eq_append_getElem h, List.append_assoc, List.getD_eq_getElem?_getD, List.getElem?_eq_getElem h]
  rfl
theorem pad3_all {l : List Int} {i : Nat} (h : l.length = i) (h3 : i ≤ 3) : bV (pad3 l i) = tri l := by
  subst h
  match l, h3 with
  | [], _ => rfl
  | [x], _ => rfl
  | [x, y], _ => rfl
  | [x, y, z], _ => rfl
theorem info_t3 : (Tryz.prog.info? 100).map (·.size) = some 3 := by kernel_rfl

set_option maxRecDepth 100000 in
set_option maxHeartbeats 2000000 in
theorem iTuple_any (w : World) (b head : List Int) (vh : Value) (hb : OkB b) (hh : Ints w vh head) (h3 : head.length ≤ 3) :
    Calls Tryz.prog 76 #[bV b, vh] w (fun e w' => e = .returned (tri (head.map (valD b))) ∧ Below w.heap.size w w') := by
  obtain ⟨a, n, cap, rfl, hl, hn, hm, hcell⟩ := hh.cases
  unfold maxLen at hm
  have hV := Lib.hid (fun w t ht => iValue_any w b t hb ht)
  have HC := Lib.hid hcell
  have HL := Lib.hid hl
  have HI := Lib.hid hh.1
  have hHl : (head.map (valD b)).length = n := by rw [List.length_map]; exact hl
  have HH := Lib.hid hHl
  have HG : Hid (∀ i, i < n → (head.map (valD b)).getD i 0 = valD b (head.getD i 0)) := fun i hi => by
    rw [List.getD_eq_getElem?_getD, List.getD_eq_getElem?_getD, List.getElem?_map, List.getElem?_eq_getElem (by omega)]; rfl
  generalize hHd : head.map (valD b) = H at *
  clear hHd
  have hn3 : n ≤ 3 := by omega
  have hbx : bV b = .agg (bA b) := rfl
  rw [hbx]
  clear hh hcell hl h3 hbx hHl
  have HB3 := Lib.hid (fun o o' o'' => ((below_alloc w o).trans ((below_alloc _ o').mono (by simp))).trans ((below_alloc _ o'').mono (by simp; omega)) : ∀ o o' o'', Below w.heap.size w (((w.alloc o).alloc o').alloc o''))
  go_enter Tryz.func76, Tryz.ntmps76
  go_wp2_with fail
  obtain ⟨W1, hW1⟩ : ∃ W1, W1 = (((w.alloc (.cells (bA b) 89)).alloc (.cells #[.int .i64 0, .int .i64 0, .int .i64 0] 100)).alloc (.cells #[.int .i64 0, .int .i64 0, .int .i64 0] 100)) := ⟨_, rfl⟩
  have g2 : W1.heap[w.heap.size + 1 + 1]? = some (.cells (bA (pad3 H 0)) 100 (0, 0)) := by
    rw [hW1, show bA (pad3 H 0) = #[.int .i64 0, .int .i64 0, .int .i64 0] from rfl]
    have := heap_alloc_new ((w.alloc (.cells (bA b) 89)).alloc (.cells #[.int .i64 0, .int .i64 0, .int .i64 0] 100)) (.cells #[.int .i64 0, .int .i64 0, .int .i64 0] 100)
    simpa using this
  have g1 : Hid (W1.heap[w.heap.size + 1]? = some (.cells #[.int .i64 0, .int .i64 0, .int .i64 0] 100 (0, 0))) := by
    unfold Hid; rw [hW1]
    refine (Below.heap_alloc _ _ _ (by simp)).trans ?_
    have := heap_alloc_new (w.alloc (.cells (bA b) 89)) (.cells #[.int .i64 0, .int .i64 0, .int .i64 0] 100)
    simpa using this
  have g0 : Hid (W1.heap[w.heap.size]? = some (.cells (bA b) 89 (0, 0))) := by
    unfold Hid; rw [hW1]
    exact (Below.heap_alloc _ _ _ (by simp; omega)).trans ((Below.heap_alloc _ _ _ (by simp)).trans (heap_alloc_new w _))
  have G2 := Lib.hid g2
  have hBW : Hid (Below w.heap.size w W1) := by unfold Hid; rw [hW1]; exact HB3.out _ _ _
  have hsz : Hid (W1.heap.size = w.heap.size + 3) := by unfold Hid; rw [hW1]; simp
  rw [← hW1]
  clear hW1 g2
  go_loopw [10] (fun iv wr => ∃ i : Nat, i ≤ n ∧ iv = .int .i64 i ∧ Hid (OnlyAt [w.heap.size + 1 + 1] W1 wr) ∧ Hid (wr.heap[w.heap.size + 1 + 1]? = some (.cells (bA (pad3 H i)) 100 (0, 0)))) (fun iv _ => n - (intOf iv).toNat)
  case atStart => exact ⟨0, by omega, rfl, OnlyAt.refl _ _, G2.out⟩
  case round =>
    obtain ⟨i, hi, rfl, HO, HR⟩ := hrel
    have hsl := hsz.out
    by_cases hlt : i < n
    · obtain ⟨hb0, off, rfl, hbw, hc⟩ := HC.out (by omega)
      have c1 : wr.cell? ⟨hb0, off + i, none⟩ = some (.int .i64 (head.getD i 0)) := HO.out.cell (by simp; omega) ((hBW.out.cell (p := ⟨hb0, off + i, none⟩) hbw).trans (hc i hlt))
      have gb : wr.heap[w.heap.size]? = some (.cells (bA b) 89 (0, 0)) := (HO.out.block _ (by omega) (by simp; omega)).trans g0.out
      have hi0 : (0 : Int) ≤ i := by omega
      have hi1 : (i : Int) < n := by omega
      have hi3 : (i : Int) < 3 := by omega
      have hcall := Lib.hid (hV.out wr (head.getD i 0) (inI_getD HI.out i))
      have HGi := Lib.hid (HG.out i hlt)
      clear hc hbw hsl
      generalize head.getD i 0 = t at *
      generalize hval : valD b t = y at *
      go_wp2_with ((with_reducible refine wpList_load_b rfl _ rfl _ _ hb ?_ gb ?_); (focus rfl))
      refine hcall.out.mono ?_
      rintro e w2 ⟨rfl, hb2⟩
      have h2 : w2.heap[w.heap.size + 1 + 1]? = some (.cells (bA (pad3 H i)) 100 (0, 0)) := (hb2.block _ (Array.getElem?_eq_some_iff.1 HR.out).1).trans HR.out
      have c2 := cell_b h2 (i := i) (by rw [pad3_len (by rw [HH.out]; omega) (by omega)]; omega)
      have f2 := froz_b h2 (i := i)
      have H2 := Lib.hid h2
      have HB2 := Lib.hid hb2
      clear h2 hb2 gb
      go_wp2_with fail
      refine ⟨⟨i + 1, by omega, by simp, ?_, ?_⟩, by simp [intOf]; omega⟩
      · exact ((HO.out.same (OnlyAt.ofBelow _ HB2.out)).same (OnlyAt.setCell w2 _ _ _))
      · have := heap_setCell_at (i := i) H2.out (.int .i64 y)
        rw [bA_set, ← HGi.out, pad3_set (by rw [HH.out]; exact hlt) (by omega)] at this
        rw [HGi.out] at this
        exact this
    · obtain rfl : i = n := by omega
      have gp := HR.out
      have gr : wr.heap[w.heap.size + 1]? = some (.cells #[.int .i64 0, .int .i64 0, .int .i64 0] 100 (0, 0)) := (HO.out.block _ (by omega) (by simp)).trans g1.out
      have hp3 : (pad3 H i).length = 3 := pad3_len (by rw [HH.out]; omega) hn3
      clear hsl
      go_wp2_with (first
        | ((with_reducible refine wpList_load_a Tryz.underlying100 info_t3 rfl _ rfl _ _ hp3 ?_ gp ?_); (focus rfl))
        | ((with_reducible refine wpList_store_a info_t3 rfl _ _ rfl _ _ hp3 _ rfl ?_ ?_ gr ?_); (focus rfl); (focus rfl)))
      rw [← pad3_all HH.out hn3]
      refine bodyPost_ret (results_cell_row Tryz.results76 _ _ (w.heap.size + 1) 100 (bA (pad3 H i)) (0, 0) _ rfl (setRow_heap _ _ _ _ _ _ gr) Tryz.underlying100 rfl (by rw [show (bA (pad3 H i)).size = 3 by simp [bA, hp3]]; exact info_t3)) rfl ⟨rfl, ?_⟩
      have h5 := HO.out.below hBW.out (by simp; omega)
      exact OnlyAt.below h5 (OnlyAt.setRow _ _ _) (by simp)
end Go.Proofs.YtfojllkkbdpfkaaGreat

/-! I6meet -/
namespace Go.Proofs.YtfojllkkbdpfkaaGreat
open Go Go.Sort Go.RowKit
set_option linter.unusedVariables false

/-- One argument is bound to a value, if that is possible: a term without a value gets it. -/
def meetStep (b : List Int) (t v : Int) : Option (List Int) :=
  if valD b t = -1 then some (b.set t.toNat v) else if valD b t = v then some b else none
def meetTo (args vals b : List Int) : Nat → Option (List Int)
  | 0 => some b
  | i + 1 => (meetTo args vals b i).bind (fun b' => meetStep b' (args.getD i 0) (vals.getD i 0))
def meetL (args vals b : List Int) : Option (List Int) := meetTo args vals b args.length
def hitD (b : List Int) (a f : Int × List Int) : Option (List Int) := if a.1 = f.1 then meetL a.2 f.2 b else none
theorem meetTo_none {args vals b : List Int} {i : Nat} (h : meetTo args vals b i = none) : ∀ j, i ≤ j → meetTo args vals b j = none := by
  intro j hj
  induction j with
  | zero => obtain rfl : i = 0 := by omega
            exact h
  | succ j ih =>
    rcases Nat.lt_or_ge i (j + 1) with h1 | h1
    · unfold meetTo; rw [ih (by omega)]; rfl
    · obtain rfl : i = j + 1 := by omega
      exact h
theorem meetTo_next {args vals b b' : List Int} {i : Nat} (h : meetTo args vals b i = some b') : meetTo args vals b (i + 1) = meetStep b' (args.getD i 0) (vals.getD i 0) := by
  show (meetTo args vals b i).bind _ = _; rw [h]; rfl
theorem okB_set {b : List Int} {i : Nat} {x : Int} (h : OkB b) (hx : inI x) : OkB (b.set i x) :=
  ⟨by simp [h.1], fun y hy => by
    rcases List.mem_or_eq_of_mem_set hy with h1 | h1
    · exact h.2 y h1
    · rw [h1]; exact hx⟩
theorem valD_unbound {b : List Int} {t : Int} (ht : -80 ≤ t ∧ t < 20) (h : valD b t = -1) : 0 ≤ t := by
  rcases (by omega : t < 0 ∨ 0 ≤ t) with h1 | h1
  · unfold valD at h
    rw [varB_no (by omega)] at h
    simp only [Bool.false_eq_true, if_false] at h
    unfold conOf at h
    rw [conB_yes (by omega) (by omega)] at h
    simp only [if_true] at h
    omega
  · exact h1
theorem valD_set {b : List Int} {k : Nat} (hk : k < 20) (hb : b.length = 20) (v : Int) : valD (b.set k v) k = v := by
  unfold valD
  rw [varB_yes (by omega) (by omega)]
  simp only [if_true, Int.toNat_natCast, List.getD_eq_getElem?_getD]
  rw [List.getElem?_set_self (by omega)]
  rfl
/-- An array of numbers out of its block, at a step of a region that draws its order. -/
theorem quiet_load_a {ops : Array Oper} {rest : List Oper} {o : Oper} {a : Act} {C : World → Prop} {Q : Act → Prop} {T e : TypeId} {n : Nat} (hu : Tryz.prog.underlying T = some (.array n e)) (hi : (Tryz.prog.info? T).map (·.size) = some n) (hw : Region.wanted o (yielded ops a.tmps) = true) (x : Operand) (ho : o.op = .load T x)
    (g : Nat) (b : List Int) (hok : b.length = n) (hx : a.eval x = .pointer (some ⟨g, 0, none⟩)) (hC : ∀ w, C w → w.heap[g]? = some (.cells (bA b) T (0, 0)))
    (h : wpQuiet Tryz.prog ops C Q rest (a.put o.dst (bV b))) : wpQuiet Tryz.prog ops C Q (o :: rest) a :=
  wpQuiet_step fun K hK => by
    rw [if_pos hw]
    refine ⟨bV b, fun w hw' => ?_, hK _ h⟩
    unfold Oper.quietAt execOp
    simp only [ho, hx, bV, Instr.loadAt, Instr.sureAddr, Sem.run_bind, Sem.run_pure, Result.andThen_ok, run_loadVar_row w g T T (bA b) (0, 0) _ (hC w hw') hu rfl (by rw [show (bA b).size = n by simp [bA, hok]]; exact hi)]
    exact ⟨rfl, rfl⟩
theorem quiet_load_b {ops : Array Oper} {rest : List Oper} {o : Oper} {a : Act} {C : World → Prop} {Q : Act → Prop} (hw : Region.wanted o (yielded ops a.tmps) = true) (x : Operand) (ho : o.op = .load 89 x)
    (g : Nat) (b : List Int) (hok : OkB b) (hx : a.eval x = .pointer (some ⟨g, 0, none⟩)) (hC : ∀ w, C w → w.heap[g]? = some (.cells (bA b) 89 (0, 0)))
    (h : wpQuiet Tryz.prog ops C Q rest (a.put o.dst (bV b))) : wpQuiet Tryz.prog ops C Q (o :: rest) a :=
  quiet_load_a Tryz.underlying89 info_b hw x ho g b hok.1 hx hC h
theorem block_regrown {w : World} {g : Nat} {o : Obj} (h : w.heap[g]? = some o) : ∀ w', (∃ p : Regrown, w' = grow (redrawn w p.d) p.os) → w'.heap[g]? = some o := by
  rintro w' ⟨p, rfl⟩
  exact ((below_regrown w p.d p.os).block g (Array.getElem?_eq_some_iff.1 h).1).trans h
theorem results_b2 {fn : Func} {p u : Tmp} (h : fn.results = #[.cell p 89, .tmp u]) (tmps : Array Value) (w : World) (g : Nat) (b : List Int) (hok : OkB b) (hp : tmps.getD p undef = .pointer (some ⟨g, 0, none⟩)) (hg : w.heap[g]? = some (.cells (bA b) 89 (0, 0))) :
    (results fn tmps).run Tryz.prog w = .ok (.tuple #[bV b, tmps.getD u undef]) w := by
  have hl := run_loadVar_row w g 89 89 (bA b) (0, 0) _ hg Tryz.underlying89 rfl (by rw [bA_size hok]; exact info_b)
  rw [results_cell_tmp h, hp]
  simp [asAddr, Result.andThen, hl, bV]
def GaveMeet (b : List Int) (a f : Int × List Int) (w : World) (e : Ending) (w' : World) : Prop := ∃ b', e = .returned (.tuple #[bV b', .bool (hitD b a f).isSome]) ∧ OkB b' ∧ (∀ x, hitD b a f = some x → b' = x) ∧ Below w.heap.size w w'

set_option maxRecDepth 100000 in
set_option maxHeartbeats 8000000 in
theorem iMeet_any (w : World) (b : List Int) (va vf : Value) (x f : Int × List Int) (hb : OkB b) (ha : RdAtom w va x) (hf : RdAtom w vf f) (ht : ∀ t ∈ x.2, -80 ≤ t ∧ t < 20) (hlen : x.1 = f.1 → f.2.length = x.2.length) :
    Calls Tryz.prog 151 #[bV b, va, vf] w (GaveMeet b x f w) := by
  obtain ⟨r, args⟩ := x
  obtain ⟨r', vals⟩ := f
  obtain ⟨aa, an, ac, rfl, hr, ha⟩ := ha
  obtain ⟨fa, fn, fc, rfl, hr', hf⟩ := hf
  simp only at hr hr' ha hf ht hlen ⊢
  obtain ⟨sa, sn, sc, e5, hla, hna, hma, hca⟩ := ha.cases
  cases e5
  obtain ⟨sa', sn', sc', e5, hlf, hnf, hmf, hcf⟩ := hf.cases
  cases e5
  unfold maxLen at hma hmf
  have hV := Lib.hid (fun w b t hb ht => iValue_any w b t hb ht)
  have HCA := Lib.hid hca
  have HCF := Lib.hid hcf
  have HLA := Lib.hid hla
  have HLF := Lib.hid hlf
  have HIA := Lib.hid ha.1
  have HIF := Lib.hid hf.1
  have HT := Lib.hid ht
  have HB := Lib.hid hb
  have HLEN := Lib.hid hlen
  have HB4 := Lib.hid (fun o o' o'' o3 => (((below_alloc w o).trans ((below_alloc _ o').mono (by simp))).trans ((below_alloc _ o'').mono (by simp; omega))).trans ((below_alloc _ o3).mono (by simp; omega)) : ∀ o o' o'' o3, Below w.heap.size w ((((w.alloc o).alloc o').alloc o'').alloc o3))
  have hbx : bV b = .agg (bA b) := rfl
  rw [hbx]
  clear ha hf hca hcf hla hlf ht hlen hbx hr hr'
  obtain ⟨Z, hZ⟩ : ∃ Z : List Int, Z = List.replicate 20 0 := ⟨_, rfl⟩
  obtain ⟨W1, hW1⟩ : ∃ W1, W1 = ((((w.alloc (.cells (bA b) 89)).alloc (.cells #[.int .i64 r, .slice aa an ac] 119)).alloc (.cells #[.int .i64 r', .slice fa fn fc] 83)).alloc (.cells (bA Z) 89)) := ⟨_, rfl⟩
  have g0 : W1.heap[w.heap.size]? = some (.cells (bA b) 89 (0, 0)) := by
    rw [hW1]
    exact (Below.heap_alloc _ _ _ (by simp; omega)).trans ((Below.heap_alloc _ _ _ (by simp; omega)).trans ((Below.heap_alloc _ _ _ (by simp)).trans (heap_alloc_new w _)))
  have g1 : W1.heap[w.heap.size + 1]? = some (.cells #[.int .i64 r, .slice aa an ac] 119 (0, 0)) := by
    rw [hW1]
    refine (Below.heap_alloc _ _ _ (by simp)).trans ((Below.heap_alloc _ _ _ (by simp)).trans ?_)
    have := heap_alloc_new (w.alloc (.cells (bA b) 89)) (.cells #[.int .i64 r, .slice aa an ac] 119)
    simpa using this
  have g2 : W1.heap[w.heap.size + 1 + 1]? = some (.cells #[.int .i64 r', .slice fa fn fc] 83 (0, 0)) := by
    rw [hW1]
    refine (Below.heap_alloc _ _ _ (by simp)).trans ?_
    have := heap_alloc_new ((w.alloc (.cells (bA b) 89)).alloc (.cells #[.int .i64 r, .slice aa an ac] 119)) (.cells #[.int .i64 r', .slice fa fn fc] 83)
    simpa using this
  have g3 : W1.heap[w.heap.size + 1 + 1 + 1]? = some (.cells (bA Z) 89 (0, 0)) := by
    rw [hW1]
    have := heap_alloc_new (((w.alloc (.cells (bA b) 89)).alloc (.cells #[.int .i64 r, .slice aa an ac] 119)).alloc (.cells #[.int .i64 r', .slice fa fn fc] 83)) (.cells (bA Z) 89)
    simpa using this
  have hBW : Hid (Below w.heap.size w W1) := by unfold Hid; rw [hW1]; exact HB4.out _ _ _ _
  have hsz : Hid (W1.heap.size = w.heap.size + 4) := by unfold Hid; rw [hW1]; simp
  have hZl : (bA Z).size = 20 := by rw [hZ]; simp [bA]
  have e1 : W1.cell? ⟨w.heap.size + 1, 1, none⟩ = some (.slice aa an ac) := cell_of_row _ _ 1 _ _ _ g1
  have e3 : W1.cell? ⟨w.heap.size + 1 + 1, 1, none⟩ = some (.slice fa fn fc) := cell_of_row _ _ 1 _ _ _ g2
  have E1 := Lib.hid e1
  have E3 := Lib.hid e3
  have G0 := Lib.hid g0
  have G3 := Lib.hid g3
  have HZL := Lib.hid hZl
  have HZW : Hid (((((w.alloc (.cells (bA b) 89)).alloc (.cells #[.int .i64 r, .slice aa an ac] 119)).alloc (.cells #[.int .i64 r', .slice fa fn fc] 83)).alloc (.cells (bA (List.replicate 20 0)) 89)) = W1) := by unfold Hid; rw [hW1, hZ]
  clear hW1 g1 g2 hZ g0 g3 e1 e3 hZl hb
  by_cases hne : r = r'
  · subst hne
    have HHD : Hid (hitD b (r, args) (r, vals) = meetL args vals b) := if_pos rfl
    have hfn : fn = an := by rw [← HLA.out, ← HLF.out]; exact HLEN.out rfl
    subst hfn
    go_enter Tryz.func151, Tryz.ntmps151
    go_wp2_with fail
    go_loopw [19] (fun iv wr => ∃ (i : Nat) (b' : List Int), i ≤ fn ∧ iv = .int .i64 i ∧ Hid (OnlyAt [w.heap.size] W1 wr) ∧ Hid (wr.heap[w.heap.size]? = some (.cells (bA b') 89 (0, 0))) ∧ Hid (OkB b') ∧ Hid (meetTo args vals b i = some b')) (fun iv _ => fn - (intOf iv).toNat)
    case atStart =>
      refine ⟨0, b, by omega, rfl, ?_, ?_, HB.out, rfl⟩
      · rw [← HZW.out]; exact OnlyAt.refl _ _
      · have := G0.out; rw [← HZW.out] at this; exact this
    case round =>
      obtain ⟨i, b', hi, rfl, HO, HR, HOK, HM⟩ := hrel
      have hsl := hsz.out
      have hok := HOK.out
      have gb := HR.out
      have hs3 : wr.heap.size ≥ w.heap.size + 4 := by have := HO.out.size; omega
      by_cases hlt : i < fn
      · skip
        obtain ⟨ab, aoff, rfl, habw, hac⟩ := HCA.out (by omega)
        obtain ⟨fb, foff, rfl, hfbw, hfc⟩ := HCF.out (by omega)
        have c1 : wr.cell? ⟨ab, aoff + i, none⟩ = some (.int .i64 (args.getD i 0)) := HO.out.cell (by simp; omega) ((hBW.out.cell (p := ⟨ab, aoff + i, none⟩) habw).trans (hac i hlt))
        have cf : wr.cell? ⟨fb, foff + i, none⟩ = some (.int .i64 (vals.getD i 0)) := HO.out.cell (by simp; omega) ((hBW.out.cell (p := ⟨fb, foff + i, none⟩) hfbw).trans (hfc i hlt))
        have cF : wr.cell? ⟨w.heap.size + 1 + 1, 1, none⟩ = some (.slice (some ⟨fb, foff, none⟩) fn fc) := HO.out.cell (by simp; omega) E3.out
        have cA : wr.cell? ⟨w.heap.size + 1, 1, none⟩ = some (.slice (some ⟨ab, aoff, none⟩) fn ac) := HO.out.cell (by simp) E1.out
        have hti : -80 ≤ args.getD i 0 ∧ args.getD i 0 < 20 := HT.out _ (by
          rw [List.getD_eq_getElem?_getD, List.getElem?_eq_getElem (by rw [HLA.out]; exact hlt)]; exact List.getElem_mem _)
        have HNX := Lib.hid (meetTo_next HM.out)
        have hvi := Lib.hid (inI_getD HIF.out i)
        have hi0 : (0 : Int) ≤ i := by omega
        have hi1 : (i : Int) < fn := by omega
        have CF := Lib.hid cf
        have CFF := Lib.hid cF
        generalize args.getD i 0 = t at *
        generalize vals.getD i 0 = v at *
        have hcall0 := Lib.hid (hV.out wr b' t hok (by unfold inI; omega))
        have HFB := Lib.hid hfbw
        clear hac hfc habw hfbw hsl hs3
        by_cases hu : valD b' t = -1
        · have ht0 := valD_unbound hti hu
          obtain ⟨k, rfl⟩ : ∃ k : Nat, t = k := ⟨t.toNat, by omega⟩
          have hk20 : (k : Int) < 20 := hti.2
          have HNEW : Hid (meetTo args vals b (i + 1) = some (b'.set k v)) := by
            unfold Hid; rw [HNX.out]; unfold meetStep; rw [if_pos hu]; rfl
          rw [hu] at hcall0
          clear hu hti ht0 cf cF
          go_wp2_with (first
            | ((with_reducible refine wpList_load_b rfl _ rfl _ _ hok ?_ gb ?_); (focus rfl))
            | ((with_reducible refine wp_cond_true ?_ ?_); (focus rfl))
            | ((with_reducible refine wp_cond_false ?_ ?_); (focus rfl)))
          refine hcall0.out.mono ?_
          rintro e w2 ⟨rfl, hb2⟩
          have HB2 := Lib.hid hb2
          have G2 := Lib.hid ((hb2.block _ (Array.getElem?_eq_some_iff.1 gb).1).trans gb)
          have c2 := cell_b G2.out (i := k) (by rw [hok.1]; omega)
          have f2 := froz_b G2.out (i := k)
          have cf := cellk hb2 CF.out
          have cF := cellk hb2 CFF.out
          clear hb2 gb
          go_wp2_with fail
          obtain ⟨w3, hw3⟩ : ∃ x, x = w2.setCell ⟨w.heap.size, k, none⟩ (.int .i64 v) := ⟨_, rfl⟩
          have hok3 : OkB (b'.set k v) := okB_set hok hvi.out
          have g3 : w3.heap[w.heap.size]? = some (.cells (bA (b'.set k v)) 89 (0, 0)) := by
            rw [hw3, ← bA_set]; exact heap_setCell_at G2.out _
          have HO3 : Hid (OnlyAt [w.heap.size] W1 w3) := by
            unfold Hid; rw [hw3]; exact (HO.out.same (OnlyAt.ofBelow _ HB2.out)).same (OnlyAt.setCell w2 _ _ _)
          have cf3 := cell_regrown (w := w3) ((by rw [hw3]; exact (OnlyAt.setCell w2 w.heap.size k _).cell (by have := HFB.out; simp; omega) cf) : w3.cell? ⟨fb, foff + i, none⟩ = some (.int .i64 v))
          have cF3 := cell_regrown (w := w3) ((by rw [hw3]; exact (OnlyAt.setCell w2 w.heap.size k _).cell (by simp; omega) cF) : w3.cell? ⟨w.heap.size + 1 + 1, 1, none⟩ = some (.slice (some ⟨fb, foff, none⟩) fn fc))
          have hcall3 := Lib.hid (fun dn os => hV.out (grow (redrawn w3 dn) os) (b'.set k v) k hok3 (by unfold inI; omega))
          rw [valD_set (by omega) hok.1] at hcall3
          have hreg := block_regrown g3
          rw [← hw3]
          clear hw3 cf cF c2 f2
          refine wp_region_quiet_below (by kernel_rfl) (by kernel_rfl) ?_
          repeat (any_goals (first | ((with_reducible refine quiet_load_b ?_ _ rfl _ _ hok3 ?_ hreg ?_); (focus rfl); (focus rfl)) | go_big_quiet_step ((go_at_call 117; exact Calls.regrown_of (hcall3.out _ _))) | quiet_step ((go_at_call 117; exact Calls.regrown_of (hcall3.out _ _)))))
          refine wpQuiet_nil ?_
          intro _ hw'
          obtain ⟨⟨dq, osq⟩, hw''⟩ := hw'
          subst hw''
          go_wp2_with fail
          refine ⟨⟨i + 1, b'.set k v, by omega, by simp, ?_, ?_, hok3, HNEW.out⟩, by simp [intOf]; omega⟩
          · exact HO3.out.same (OnlyAt.ofBelow _ (below_regrown _ _ _))
          · exact hreg _ ⟨⟨dq, osq⟩, rfl⟩
        · have q1 : (valD b' t == -1) = false := by simpa using hu
          have HST : Hid (meetTo args vals b (i + 1) = if valD b' t = v then some b' else none) := by
            unfold Hid; rw [HNX.out]; unfold meetStep; rw [if_neg hu]
          have hin := Lib.hid (fun (w : World) => hV.out w b' t hok (by unfold inI; omega))
          generalize valD b' t = y at *
          clear hu hti cf cF
          go_wp2_with (first
            | ((with_reducible refine wpList_load_b rfl _ rfl _ _ hok ?_ gb ?_); (focus rfl))
            | ((with_reducible refine wp_cond_true ?_ ?_); (focus rfl))
            | ((with_reducible refine wp_cond_false ?_ ?_); (focus rfl)))
          refine hcall0.out.mono ?_
          rintro e w2 ⟨rfl, hb2⟩
          have HB2 := Lib.hid hb2
          have G2 := (hb2.block _ (Array.getElem?_eq_some_iff.1 gb).1).trans gb
          have cf3 := cell_regrown (w := w2) (cellk hb2 CF.out)
          have cF3 := cell_regrown (w := w2) (cellk hb2 CFF.out)
          have hcall3 := Lib.hid (fun dn os => hin.out (grow (redrawn w2 dn) os))
          have hreg := block_regrown G2
          have HO2 : Hid (OnlyAt [w.heap.size] W1 w2) := HO.out.same (OnlyAt.ofBelow _ hb2)
          clear hb2 gb
          by_cases hyv : y = v
          · have HST2 : Hid (meetTo args vals b (i + 1) = some b') := by unfold Hid; rw [HST.out, if_pos hyv]
            subst hyv
            clear HST
            go_wp2_with fail
            refine wp_region_quiet_below (by kernel_rfl) (by kernel_rfl) ?_
            repeat (any_goals (first | ((with_reducible refine quiet_load_b ?_ _ rfl _ _ hok ?_ hreg ?_); (focus rfl); (focus rfl)) | go_big_quiet_step ((go_at_call 117; exact Calls.regrown_of (hcall3.out _ _))) | quiet_step ((go_at_call 117; exact Calls.regrown_of (hcall3.out _ _)))))
            refine wpQuiet_nil ?_
            intro _ hw'
            obtain ⟨⟨dq, osq⟩, hw''⟩ := hw'
            subst hw''
            go_wp2_with fail
            refine ⟨⟨i + 1, b', by omega, by simp, ?_, ?_, hok, HST2.out⟩, by simp [intOf]; omega⟩
            · exact HO2.out.same (OnlyAt.ofBelow _ (below_regrown _ _ _))
            · exact hreg _ ⟨⟨dq, osq⟩, rfl⟩
          · have HST2 : Hid (meetL args vals b = none) := by unfold Hid meetL; exact meetTo_none (by rw [HST.out, if_neg hyv]) _ (by rw [HLA.out]; omega)
            have q2 : (y != v) = true := bne_iff_ne.2 hyv
            clear HST hyv
            go_wp2_with fail
            refine wp_region_quiet_below (by kernel_rfl) (by kernel_rfl) ?_
            repeat (any_goals (first | ((with_reducible refine quiet_load_b ?_ _ rfl _ _ hok ?_ hreg ?_); (focus rfl); (focus rfl)) | go_big_quiet_step ((go_at_call 117; exact Calls.regrown_of (hcall3.out _ _))) | quiet_step ((go_at_call 117; exact Calls.regrown_of (hcall3.out _ _)))))
            refine wpQuiet_nil ?_
            intro _ hw'
            obtain ⟨⟨dq, osq⟩, hw''⟩ := hw'
            subst hw''
            have gb9 := hreg _ ⟨⟨dq, osq⟩, rfl⟩
            have HO9 : Hid (OnlyAt [w.heap.size] W1 (grow (redrawn w2 dq) osq)) := HO2.out.same (OnlyAt.ofBelow _ (below_regrown _ _ _))
            have g39 : (grow (redrawn w2 dq) osq).heap[w.heap.size + 1 + 1 + 1]? = some (.cells (bA Z) 89 (0, 0)) := (HO9.out.block _ (by have := hsz.out; omega) (by simp; omega)).trans G3.out
            have hZl := HZL.out
            go_wp2_with (first
              | ((with_reducible refine wpList_load_b rfl _ rfl _ _ hok ?_ gb9 ?_); (focus rfl))
              | ((with_reducible refine wpList_store_b rfl _ _ rfl _ _ hok _ hZl ?_ ?_ g39 ?_); (focus rfl); (focus rfl))
              | ((with_reducible refine wp_cond_true ?_ ?_); (focus rfl))
              | ((with_reducible refine wp_cond_false ?_ ?_); (focus rfl)))
            refine bodyPost_ret (results_b2 Tryz.results151 _ _ (w.heap.size + 1 + 1 + 1) b' hok rfl (setRow_heap _ _ _ _ _ _ g39)) rfl ?_
            refine ⟨b', by rw [HHD.out, HST2.out]; rfl, hok, fun x hx => by (rw [HHD.out, HST2.out] at hx; cases hx), ?_⟩
            exact OnlyAt.below (OnlyAt.below hBW.out HO9.out (by simp)) (OnlyAt.setRow _ _ _) (by simp; omega)
      · obtain rfl : i = fn := by omega
        have g3 : wr.heap[w.heap.size + 1 + 1 + 1]? = some (.cells (bA Z) 89 (0, 0)) := (HO.out.block _ (by omega) (by simp; omega)).trans G3.out
        have hZl := HZL.out
        go_wp2_with (first
          | ((with_reducible refine wpList_load_b rfl _ rfl _ _ hok ?_ gb ?_); (focus rfl))
          | ((with_reducible refine wpList_store_b rfl _ _ rfl _ _ hok _ hZl ?_ ?_ g3 ?_); (focus rfl); (focus rfl))
          | ((with_reducible refine wp_cond_true ?_ ?_); (focus rfl))
          | ((with_reducible refine wp_cond_false ?_ ?_); (focus rfl)))
        refine bodyPost_ret (results_b2 Tryz.results151 _ _ (w.heap.size + 1 + 1 + 1) b' hok rfl (setRow_heap _ _ _ _ _ _ g3)) rfl ?_
        have hml : meetL args vals b = some b' := by unfold meetL; rw [HLA.out]; exact HM.out
        refine ⟨b', by rw [HHD.out, hml]; rfl, hok, fun x hx => by rw [HHD.out, hml] at hx; exact Option.some.inj hx, ?_⟩
        exact OnlyAt.below (OnlyAt.below hBW.out HO.out (by simp)) (OnlyAt.setRow _ _ _) (by simp; omega)
  · have HHD : Hid (hitD b (r, args) (r', vals) = none) := if_neg hne
    have q : (r != r') = true := bne_iff_ne.2 hne
    have hE0 := G0.out
    have hE3 := G3.out
    have hB := HB.out
    rw [← HZW.out] at hE0 hE3
    have hF0 : ((((w.alloc (.cells (bA b) 89)).alloc (.cells #[.int .i64 r, .slice aa an ac] 119)).alloc (.cells #[.int .i64 r', .slice fa fn fc] 83)).alloc (.cells #[.int .i64 0, .int .i64 0, .int .i64 0, .int .i64 0, .int .i64 0, .int .i64 0, .int .i64 0, .int .i64 0, .int .i64 0, .int .i64 0, .int .i64 0, .int .i64 0, .int .i64 0, .int .i64 0, .int .i64 0, .int .i64 0, .int .i64 0, .int .i64 0, .int .i64 0, .int .i64 0] 89)).heap[w.heap.size]? = some (.cells (bA b) 89 (0, 0)) := hE0
    have hF3 : ((((w.alloc (.cells (bA b) 89)).alloc (.cells #[.int .i64 r, .slice aa an ac] 119)).alloc (.cells #[.int .i64 r', .slice fa fn fc] 83)).alloc (.cells #[.int .i64 0, .int .i64 0, .int .i64 0, .int .i64 0, .int .i64 0, .int .i64 0, .int .i64 0, .int .i64 0, .int .i64 0, .int .i64 0, .int .i64 0, .int .i64 0, .int .i64 0, .int .i64 0, .int .i64 0, .int .i64 0, .int .i64 0, .int .i64 0, .int .i64 0, .int .i64 0] 89)).heap[w.heap.size + 1 + 1 + 1]? = some (.cells (bA Z) 89 (0, 0)) := hE3
    have hZl := HZL.out
    clear hne hE0 hE3
    go_enter Tryz.func151, Tryz.ntmps151
    go_wp2_with (first
      | ((with_reducible refine wpList_load_b rfl _ rfl _ _ hB ?_ hF0 ?_); (focus rfl))
      | ((with_reducible refine wpList_store_b rfl _ _ rfl _ _ hB _ hZl ?_ ?_ hF3 ?_); (focus rfl); (focus rfl))
      | ((with_reducible refine wp_cond_true ?_ ?_); (focus rfl))
      | ((with_reducible refine wp_cond_false ?_ ?_); (focus rfl)))
    refine bodyPost_ret (results_b2 Tryz.results151 _ _ (w.heap.size + 1 + 1 + 1) b hB rfl (setRow_heap _ _ _ _ _ _ hF3)) rfl ?_
    refine ⟨b, by rw [HHD.out]; rfl, hB, fun x hx => by (rw [HHD.out] at hx; cases hx), ?_⟩
    exact OnlyAt.below (HB4.out _ _ _ _) (OnlyAt.setRow _ _ _) (by simp; omega)
end Go.Proofs.YtfojllkkbdpfkaaGreat

/-! I6ext -/
namespace Go.Proofs.YtfojllkkbdpfkaaGreat
open Go Go.Sort Go.RowKit Go.Shelf
set_option linter.unusedVariables false
attribute [local go_sem] Oper.semAt_some

/-- Twenty numbers, as yield gets them. -/
abbrev BB := { b : List Int // OkB b }
def encB (x : BB) : Array Value := #[bV x.1]
/-- The blocks of bindings lie as they lay. -/
def KeepB (W W' : World) : Prop := ∀ (k : Nat) (c : Array Value) (fr : Nat × Nat), W.heap[k]? = some (.cells c 89 fr) → W'.heap[k]? = some (.cells c 89 fr)
def KpB (n₀ : Nat) (W W' : World) : Prop := Below n₀ W W' ∧ KeepB W W'
theorem KpB.refl (n₀ : Nat) (W : World) : KpB n₀ W W := ⟨Below.refl _ _, fun _ _ _ h => h⟩
theorem KpB.trans {n₀ : Nat} {A B C : World} (h : KpB n₀ A B) (k : KpB n₀ B C) : KpB n₀ A C := ⟨h.1.trans k.1, fun i c fr hh => k.2 i c fr (h.2 i c fr hh)⟩
theorem KpB.ofBelow {n₀ : Nat} {W W' : World} (h : Below W.heap.size W W') (hn : n₀ ≤ W.heap.size) : KpB n₀ W W' :=
  ⟨h.mono hn, fun k c fr hh => (h.block k (Array.getElem?_eq_some_iff.1 hh).1).trans hh⟩
theorem room_none {F : Fence} (hd : F.depth = none) (k : Nat) : F.room k := fun d h => by rw [hd] at h; cases h
theorem round_any {F : Fence} (hd : F.depth = none) {m m' : Nat} {P : Program} {l : Nat} {f : FuncId} {tmps : Array Value} {assign body : Code} {w : World} {R : Ending → World → Prop}
    (h : RoundIn F m P l f tmps assign body w R) : RoundIn F m' P l f tmps assign body w R := ⟨h.1, fun c cs _ => h.2 c cs (room_none hd _)⟩
theorem yield_any {F : Fence} (hd : F.depth = none) {m : Nat} (m' : Nat) {P : Program} {l : Nat} {args : Array Value} {W : World} {R : Ending → World → Prop} (h : YieldAt F m P l args W R) : YieldAt F m' P l args W R := by
  obtain ⟨fn, tmps, assign, body, hy, hR⟩ := h
  exact ⟨fn, tmps, assign, body, hy, round_any hd hR⟩
/-- What J says it says of every world that has grown since. -/
theorem abides_below {β : Type} {B : Nat} {J : β → World → Prop} (h : AbidesFrom B J) {s : β} {W W' : World} (hs : J s W) (hb : Below W.heap.size W W') : J s W' :=
  h s W W' none hs ⟨hb.os, hb.tape, hb.output, hb.size, fun k hk _ => hb.block k hk⟩ (fun r e => by cases e)

theorem wpListIn_load_b {n : Nat} {ops : Array Oper} {rest : List Oper} {o : Oper} {a : Act} {w : World} {Q : Exit → Act → World → Prop} (hgd : o.guard = none) (x : Operand) (ho : o.op = .load 89 x)
    (g : Nat) (b : List Int) (hok : OkB b) (hx : a.eval x = .pointer (some ⟨g, 0, none⟩)) (hg : w.heap[g]? = some (.cells (bA b) 89 (0, 0)))
    (h : wpListIn Fence.wide n Tryz.prog ops Q rest (a.put o.dst (bV b)) w) : wpListIn Fence.wide n Tryz.prog ops Q (o :: rest) a w := by
  refine wpListIn_plain hgd fun K hK => ⟨fun _ _ => trivial, ?_⟩
  show o.uponIn Fence.wide n Tryz.prog a K Q ((execOp a.eval o).run Tryz.prog w)
  unfold execOp
  simp only [ho, hx, Instr.loadAt, Instr.sureAddr, Sem.run_bind, Sem.run_pure, Result.andThen_ok, run_loadVar_row w g 89 89 (bA b) (0, 0) _ hg Tryz.underlying89 rfl (by rw [bA_size hok]; exact info_b)]
  exact hK _ _ h

/-- All bindings of the atoms that are left, in the order in which they are found. -/
def extD (db : List (Int × List Int)) : List (Int × List Int) → List Int → List (List Int)
  | [], b => [b]
  | a :: rest, b => db.flatMap (fun f => match hitD b a f with | some b' => extD db rest b' | none => [])
/-- What is asked of yield, and what the search gives back. -/
def YieldsB (n₀ N l : Nat) (J Jx : List BB → World → Prop) : Prop := ∀ (m : Nat) (pre : List BB) (x : BB) (W : World), J pre W → pre.length < N →
  YieldAt Fence.wide m Tryz.prog l (encB x) W fun e W' => (e = .returned (.bool true) ∧ J (pre ++ [x]) W' ∧ KpB n₀ W W') ∨ (e = .returned (.bool false) ∧ Jx (pre ++ [x]) W')
def GaveExt (n₀ : Nat) (J Jx : List BB → World → Prop) (out : List (List Int)) (pre : List BB) (W : World) (e : Ending) (W' : World) : Prop :=
  (e = .returned (.bool true) ∧ KpB n₀ W W' ∧ ∃ ys : List BB, ys.map (·.1) = out ∧ J (pre ++ ys) W') ∨ (e = .returned (.bool false) ∧ ∃ ys : List BB, ys.map (·.1) <+: out ∧ Jx (pre ++ ys) W')

set_option maxRecDepth 100000 in
set_option maxHeartbeats 2000000 in
theorem iExt_nil (n₀ N l : Nat) (J Jx : List BB → World → Prop) (hJ : ∀ s W W', J s W → Below W.heap.size W W' → J s W') (hY : YieldsB n₀ N l J Jx) (n : Nat) (b : List Int) (hb : OkB b) (pa : Option Addr) (ca : Nat) (vdb : Value) (pre : List BB) (W : World) (hn : n₀ ≤ W.heap.size) (h0 : J pre W) (hN : pre.length < N) :
    CallsIn Fence.wide n Tryz.prog 110 #[bV b, .slice pa 0 ca, vdb, .func (.yield l) #[] #[]] W (GaveExt n₀ J Jx [b] pre W) := by
  have hW1 := below_alloc W (.cells (bA b) 89)
  have hKp : Hid (KpB n₀ W (W.alloc (.cells (bA b) 89))) := KpB.ofBelow hW1 hn
  obtain ⟨fn, tmps, assign, body, hy, hR⟩ := hY (n - 1) pre ⟨b, hb⟩ _ (hJ _ _ _ h0 hW1) hN
  have HR := Lib.hid hR
  have hG := heap_alloc_new W (.cells (bA b) 89)
  dsimp only [encB] at hy
  clear hY hJ hW1 hR
  refine callsIn_of_wp Tryz.func110 rfl trivial ?_ rfl
  simp only [Tryz.ntmps110, List.size_toArray, List.length_cons, List.length_nil, Nat.reduceAdd, Nat.reduceSub, Array.replicate_succ, Array.replicate_zero, List.push_toArray, List.append_toArray, List.nil_append, List.cons_append]
  rw [show bV b = .agg (bA b) from rfl]
  gi_wp2_with (first
    | ((with_reducible refine wpListIn_load_b rfl _ rfl _ _ hb ?_ hG ?_); (focus rfl))
    | ((with_reducible refine wpIn_cond_true ?_ ?_); (focus rfl))
    | ((with_reducible refine wpIn_cond_false ?_ ?_); (focus rfl)))
  refine ⟨fun h => (by cases h), ?_⟩
  refine HR.out.mono ?_
  rintro e W2 (⟨rfl, hJ2, hk2⟩ | ⟨rfl, hJx2⟩)
  · have HK := Lib.hid (hKp.out.trans hk2)
    have HJ2 := Lib.hid hJ2
    clear hJ2 hk2
    gi_wp2
    go_ret
    exact .inl ⟨rfl, HK.out, [⟨b, hb⟩], rfl, HJ2.out⟩
  · have HJ2 := Lib.hid hJx2
    clear hJx2
    gi_wp2
    go_ret
    exact .inr ⟨rfl, [⟨b, hb⟩], List.prefix_refl _, HJ2.out⟩

theorem there_below {w w' : World} {g n : Nat} (h : w.there g 0 n) (hn : 0 < n) (hb : Below w.heap.size w w') : w'.there g 0 n := fun j hj => by
  obtain ⟨h1, h2⟩ := h j hj
  obtain ⟨u, hu⟩ := Option.isSome_iff_exists.1 h1
  have hlt := World.block_lt_of_cell? w _ hu
  exact ⟨by rw [hb.cell (p := ⟨g, 0 + j, none⟩) hlt]; exact h1, by rw [hb.frozen (p := ⟨g, 0 + j, none⟩) hlt]; exact h2⟩
theorem there_new (w : World) : (w.alloc (.cells #[.int .i64 0, .int .i64 0, .int .i64 0, .int .i64 0, .int .i64 0, .int .i64 0, .int .i64 0, .int .i64 0, .int .i64 0, .int .i64 0, .int .i64 0, .int .i64 0, .int .i64 0, .int .i64 0, .int .i64 0, .int .i64 0, .int .i64 0, .int .i64 0, .int .i64 0, .int .i64 0] 89)).there w.heap.size 0 20 := fun j hj => by
  have hg := heap_alloc_new w (.cells #[.int .i64 0, .int .i64 0, .int .i64 0, .int .i64 0, .int .i64 0, .int .i64 0, .int .i64 0, .int .i64 0, .int .i64 0, .int .i64 0, .int .i64 0, .int .i64 0, .int .i64 0, .int .i64 0, .int .i64 0, .int .i64 0, .int .i64 0, .int .i64 0, .int .i64 0, .int .i64 0] 89)
  refine ⟨?_, froz_b hg⟩
  rw [cell_of_row _ _ (0 + j) _ _ _ hg, Nat.zero_add, Array.getElem?_eq_getElem (by simpa using hj)]
  rfl
theorem range_b {w : World} {g : Nat} {b : List Int} {T : TypeId} (h : w.heap[g]? = some (.cells (bA b) T (0, 0))) : w.rangeAt g 0 (b.map (Value.int .i64)) := fun j v hv => by
  rw [cell_of_row _ _ (0 + j) _ _ _ h, Nat.zero_add]
  simpa [bA] using hv
theorem len_b {b : List Int} (h : OkB b) : (b.map (Value.int .i64)).length = 20 := by rw [List.length_map]; exact h.1
theorem one_b (b : List Int) : ∀ v ∈ b.map (Value.int .i64), v.oneCell' = true := fun v hv => by
  obtain ⟨x, _, rfl⟩ := List.mem_map.1 hv; rfl
theorem below_setCells {w w' : World} (h : Below w.heap.size w w') (g o : Nat) (vs : List Value) (hg : w.heap.size ≤ g) : Below w.heap.size w (w'.setCells g o vs) := by
  induction vs generalizing o w' with
  | nil => exact h
  | cons v vs ih => exact ih (h.setCell (p := ⟨g, o, none⟩) hg _) (o + 1)
/-- What one fact leads to. -/
def extF (db : List (Int × List Int)) (a : Int × List Int) (rest : List (Int × List Int)) (b : List Int) (f : Int × List Int) : List (List Int) := match hitD b a f with | some b' => extD db rest b' | none => []
theorem extD_cons (db : List (Int × List Int)) (a : Int × List Int) (rest : List (Int × List Int)) (b : List Int) : extD db (a :: rest) b = db.flatMap (extF db a rest b) := rfl
theorem flat_next {α β : Type} {l : List α} {i : Nat} {f : α} (g : α → List β) (h : l[i]? = some f) : (l.take (i + 1)).flatMap g = (l.take i).flatMap g ++ g f := by
  obtain ⟨hk, rfl⟩ := List.getElem?_eq_some_iff.1 h
  rw [List.take_succ_eq_append_getElem hk, List.flatMap_append]
  simp
theorem flat_le {α β : Type} (l : List α) (i : Nat) (g : α → List β) : ((l.take i).flatMap g).length ≤ (l.flatMap g).length := by
  have e : ((l.take i) ++ (l.drop i)).flatMap g = l.flatMap g := by rw [List.take_append_drop]
  rw [← e, List.flatMap_append, List.length_append]; omega
theorem still_load_b {ops : Array Oper} {rest : List Oper} {o : Oper} {a : Act} {w : World} {Q : Act → Prop} (hw : Region.wanted o (yielded ops a.tmps) = true) (x : Operand) (ho : o.op = .load 89 x)
    (g : Nat) (b : List Int) (hok : OkB b) (hx : a.eval x = .pointer (some ⟨g, 0, none⟩)) (hg : w.heap[g]? = some (.cells (bA b) 89 (0, 0)))
    (h : wpStill Tryz.prog ops w Q rest (a.put o.dst (bV b))) : wpStill Tryz.prog ops w Q (o :: rest) a :=
  wpStill_step fun K hK => by
    rw [if_pos hw]
    unfold Oper.still execOp
    simp only [ho, hx, Instr.loadAt, Instr.sureAddr, Sem.run_bind, Sem.run_pure, Result.andThen_ok, run_loadVar_row w g 89 89 (bA b) (0, 0) _ hg Tryz.underlying89 rfl (by rw [bA_size hok]; exact info_b)]
    exact ⟨rfl, hK _ h⟩
theorem heap_setCells_at {g : Nat} {T : TypeId} : ∀ (vs : List Value) (o : Nat) (w : World) (cs : Array Value), w.heap[g]? = some (.cells cs T (0, 0)) → o + vs.length = cs.size →
    (w.setCells g o vs).heap[g]? = some (.cells (cs.toList.take o ++ vs).toArray T (0, 0))
  | [], o, w, cs, h, hl => by
    have : (cs.toList.take o ++ []).toArray = cs := by
      rw [List.append_nil, List.take_of_length_le (by simp; simp at hl; omega)]
    rw [this]; exact h
  | v :: vs, o, w, cs, h, hl => by
    have h1 := heap_setCells_at vs (o + 1) _ _ (heap_setCell_at (i := o) h v) (by simp at hl ⊢; omega)
    show ((w.setCell ⟨g, o, none⟩ v).setCells g (o + 1) vs).heap[g]? = _
    rw [h1]
    have ho : o < cs.toList.length := by simp at hl ⊢; omega
    congr 3
    rw [Array.toList_setIfInBounds, List.take_succ_eq_append_getElem (by simpa using ho), List.take_set, List.set_eq_of_length_le (by rw [List.length_take]; omega), List.getElem_set_self, List.append_assoc]
    rfl
theorem store_b {w : World} {g : Nat} {cs : Array Value} {b : List Int} (h : w.heap[g]? = some (.cells cs 89 (0, 0))) (hs : cs.size = 20) (hb : OkB b) : (w.setCells g 0 (b.map (Value.int .i64))).heap[g]? = some (.cells (bA b) 89 (0, 0)) := by
  rw [heap_setCells_at _ 0 w cs h (by rw [List.length_map, hb.1, hs])]
  rfl

set_option maxRecDepth 100000 in
set_option maxHeartbeats 8000000 in
theorem iExt_cons (W0 : World) (N l : Nat) (J Jx : List BB → World → Prop) (hJ : ∀ s W W', J s W → Below W.heap.size W W' → J s W') (db : List (Int × List Int)) (vdb : Value) (hdb : RdAtomS W0 vdb db) (a : Int × List Int) (rest : List (Int × List Int))
    (hlen : ∀ f ∈ db, a.1 = f.1 → f.2.length = a.2.length) (hta : ∀ t ∈ a.2, -80 ≤ t ∧ t < 20)
    (ih : ∀ (b : List Int) (vat : Value) (pre : List BB) (W : World), OkB b → RdAtomS W0 vat rest → Below W0.heap.size W0 W → J pre W → pre.length + (extD db rest b).length ≤ N → Calls Tryz.prog 110 #[bV b, vat, vdb, .func (.yield l) #[] #[]] W (GaveExt W0.heap.size J Jx (extD db rest b) pre W))
    (b : List Int) (hb : OkB b) (vat : Value) (hat : RdAtomS W0 vat (a :: rest)) (pre : List BB) (W : World) (hbW : Below W0.heap.size W0 W) (h0 : J pre W) (hN : pre.length + (extD db (a :: rest) b).length ≤ N) :
    Calls Tryz.prog 110 #[bV b, vat, vdb, .func (.yield l) #[] #[]] W (GaveExt W0.heap.size J Jx (extD db (a :: rest) b) pre W) := by
  obtain ⟨pa, an, ac, rfl, hat⟩ := hat
  obtain ⟨pd, dn, dc, rfl, hdb'⟩ := hdb
  obtain ⟨hla, hna, hma, hca⟩ := hat.at
  obtain ⟨hld, hnd, hmd, hcd⟩ := hdb'.at
  unfold maxLen at hma hmd
  obtain ⟨ab, aoff, rfl, habW, hcells⟩ := hca (by rw [← hla]; simp)
  obtain ⟨sa, sn, sc, ca0, ca1, hai, haints⟩ := atomAt (n := an) hcells 0 a rfl
  have HNIL : Hid (an ≠ 0) := by unfold Hid; rw [← hla]; simp
  have hM := Lib.hid (fun w b va vf f hb ha hf h1 => iMeet_any w b va vf a f hb ha hf hta h1)
  have HCD := Lib.hid hcd
  have HLD := Lib.hid hld
  have HIH := Lib.hid ih
  have HBW := Lib.hid hbW
  have HB := Lib.hid hb
  have HAI := Lib.hid haints
  obtain ⟨pt, hpt⟩ : ∃ p, (if ac = 1 then some (⟨ab, aoff, none⟩ : Addr) else some ⟨ab, aoff + 2, none⟩) = p := ⟨_, rfl⟩
  have HREST : Hid (RdAtomS W0 (.slice pt (an - 1) (ac - 1)) rest) := by
    have hrl : rest.length = an - 1 := by simp at hla; omega
    refine ⟨_, _, _, rfl, _, _, _, rfl, hrl, by omega, by unfold maxLen; omega, fun h0 => ⟨ab, aoff + 2, ?_, habW, fun j hj => ?_⟩⟩
    · rw [← hpt, if_neg (by omega)]
    · obtain ⟨cs, e1, e2, e3⟩ := hcells (j + 1) rest[j] (by rw [List.getElem?_cons_succ]; exact List.getElem?_eq_getElem hj)
      exact ⟨cs, e1, fun e he => by rw [← e2 e he]; congr 2; omega, e3⟩
  have HJ := Lib.hid hJ
  have HLEN := Lib.hid hlen
  have HNN := Lib.hid hN
  have hW1 := below_alloc W (.cells (bA b) 89)
  have HKP := Lib.hid (KpB.ofBelow hW1 hbW.size)
  have HJ0 := Lib.hid (hJ _ _ _ h0 hW1)
  have HG := Lib.hid (heap_alloc_new W (.cells (bA b) 89))
  simp only [Nat.zero_mul, Nat.add_zero] at ca0 ca1
  clear hat hdb' hca hcd hcells hld hla ih hb haints hJ hW1 h0 hN hbW hta hlen
  have q : ((an : Int) == 0) = false := by have := HNIL.out; simp; omega
  rw [show bV b = .agg (bA b) from rfl]
  go_enter Tryz.func110, Tryz.ntmps110
  go_wp2_with fail
  obtain ⟨W1, hW1⟩ : ∃ x, x = W.alloc (.cells (bA b) 89) := ⟨_, rfl⟩
  rw [← hW1] at HKP HJ0 HG ⊢
  clear hW1
  go_loopw [21] (fun iv wr => ∃ (i : Nat) (ys : List BB), i ≤ dn ∧ iv = .int .i64 i ∧ Hid (KpB W0.heap.size W wr) ∧ Hid (wr.heap[W.heap.size]? = some (.cells (bA b) 89 (0, 0))) ∧ Hid (ys.map (·.1) = (db.take i).flatMap (extF db a rest b)) ∧ Hid (J (pre ++ ys) wr)) (fun iv _ => dn - (intOf iv).toNat)
  case atStart => exact ⟨0, [], by omega, rfl, HKP.out, HG.out, rfl, by rw [List.append_nil]; exact HJ0⟩
  case round =>
    obtain ⟨i, ys, hi, rfl, HK, HR, HY, HJy⟩ := hrel
    by_cases hlt : i < dn
    · obtain ⟨fb, foff, rfl, hfbW, hc⟩ := HCD.out (by omega)
      obtain ⟨f, hf⟩ : ∃ f, db[i]? = some f := ⟨db[i]'(by rw [HLD.out]; exact hlt), List.getElem?_eq_getElem (by rw [HLD.out]; exact hlt)⟩
      obtain ⟨fa, fm, fc, c0, c1, hfi, hints⟩ := atomAt (n := dn) hc i f hf
      have hb0 : Below W0.heap.size W0 wr := HBW.out.trans HK.out.1
      have k0 := cellk hb0 c0
      have k1 := cellk hb0 c1
      have HW0 := Lib.hid hb0
      have HF := Lib.hid hf
      have HFI := Lib.hid hints
      have hi0 : (0 : Int) ≤ i := by omega
      have hi1 : (i : Int) < dn := by omega
      have hlenf := Lib.hid (HLEN.out f (List.mem_of_getElem? hf))
      have hM5 := Lib.hid (fun (w : World) (h : Below W0.heap.size W0 w) => hM.out w b (.agg #[.int .i64 a.1, .slice sa sn sc]) (.agg #[.int .i64 f.1, .slice fa fm fc]) f HB.out ⟨_, _, _, rfl, hai, HAI.out.below h⟩ ⟨_, _, _, rfl, hfi, hints.below h⟩ hlenf.out)
      clear hc hf hb0 hints c0 c1 hfbW
      generalize hr1 : a.1 = r at *
      generalize hr2 : f.1 = r' at *
      have HR1 := Lib.hid hr1
      have HR2 := Lib.hid hr2
      clear hr1 hr2
      go_wp2_with fail
      obtain ⟨w5, hw5⟩ : ∃ x, x = wr.alloc (.cells #[.int .i64 r', .slice fa fm fc] 83) := ⟨_, rfl⟩
      have h5 : Below wr.heap.size wr w5 := by rw [hw5]; exact below_alloc _ _
      have g5 : w5.heap[wr.heap.size]? = some (.cells #[.int .i64 r', .slice fa fm fc] 83 (0, 0)) := by rw [hw5]; exact heap_alloc_new wr _
      have e0 : w5.cell? ⟨wr.heap.size, 0, none⟩ = some (.int .i64 r') := cell_of_row _ _ 0 _ _ _ g5
      have e1 : w5.cell? ⟨wr.heap.size, 1, none⟩ = some (.slice fa fm fc) := cell_of_row _ _ 1 _ _ _ g5
      have H05 := Lib.hid (HW0.out.trans (h5.mono HW0.out.size))
      have a0 := cellk H05.out ca0
      have a1 := cellk H05.out ca1
      have r5 := range_b ((h5.block _ (Array.getElem?_eq_some_iff.1 HR.out).1).trans HR.out)
      rw [← hw5]
      have HBS : Hid (∀ w', Below w5.heap.size w5 w' → Below w5.heap.size w5 w' ∧ w'.rangeAt W.heap.size 0 (b.map (Value.int .i64)) ∧ w'.cell? ⟨ab, aoff, none⟩ = some (.int .i64 r) ∧ w'.cell? ⟨ab, aoff + 1, none⟩ = some (.slice sa sn sc) ∧ w'.cell? ⟨wr.heap.size, 0, none⟩ = some (.int .i64 r') ∧ w'.cell? ⟨wr.heap.size, 1, none⟩ = some (.slice fa fm fc)) := fun w' h =>
        ⟨h, fun j v hv => cellk h (r5 j v hv), cellk h a0, cellk h a1, cellk h e0, cellk h e1⟩
      have hu67 := Tryz.underlying89
      have hi67 : (Tryz.prog.info? 89).map (·.size) = some (b.map (Value.int .i64)).length := by rw [List.length_map, HB.out.1]; exact info_b
      have hth := there_new
      have hlb := len_b HB.out
      clear hw5 g5 e0 e1 a0 a1 r5 k0 k1
      have hanN : 0 < an := by have := HNIL.out; omega
      have han : (0 : Int) < an := by omega
      have han1 : (1 : Int) ≤ an := by omega
      cases hq : hitD b a f with
      | none =>
        have HQ := Lib.hid hq
        clear hq
        go_region_held3 (fun w' => Below w5.heap.size w5 w' ∧ w'.rangeAt W.heap.size 0 (b.map (Value.int .i64)) ∧ w'.cell? ⟨ab, aoff, none⟩ = some (.int .i64 r) ∧ w'.cell? ⟨ab, aoff + 1, none⟩ = some (.slice sa sn sc) ∧ w'.cell? ⟨wr.heap.size, 0, none⟩ = some (.int .i64 r') ∧ w'.cell? ⟨wr.heap.size, 1, none⟩ = some (.slice fa fm fc)) ((refine HBS.out _ ?_; go_split_ands; first | exact (Below.refl _ _).drew | assumption | exact bnext (by assumption) (by assumption) | exact Below.alloc (by assumption) (Below.size (by assumption)) _ | exact below_setCells (by assumption) _ _ _ (Nat.le_refl _) | exact below_setCells (by assumption) _ _ _ hs6)) ((go_at_call 151; (try go_split_ands); refine (hM5.out _ (H05.out.trans (Below.mono (by assumption) H05.out.size))).mono ?_; rintro e w6 ⟨b6, rfl, hok6, hx6, hb6⟩; (try rw [HQ.out]); have hone6 := one_b b6; have hl6 := len_b hok6; have hB6 : Below w5.heap.size w5 w6 := bnext (by assumption) hb6; have hT6 := (fun g h => there_below h (by omega) hb6 : ∀ g, _ → World.there _ g 0 20); (try have hT5 : w6.there w5.heap.size 0 20 := hT6 _ (there_new _)); have hs6 : w5.heap.size ≤ w6.heap.size := Nat.le_trans (Below.size (by assumption)) hb6.size))
        · have hB7 : Below w5.heap.size w5 ((w6.alloc (.cells #[.int .i64 0, .int .i64 0, .int .i64 0, .int .i64 0, .int .i64 0, .int .i64 0, .int .i64 0, .int .i64 0, .int .i64 0, .int .i64 0, .int .i64 0, .int .i64 0, .int .i64 0, .int .i64 0, .int .i64 0, .int .i64 0, .int .i64 0, .int .i64 0, .int .i64 0, .int .i64 0] 89)).setCells w6.heap.size 0 (b6.map (Value.int .i64))) := below_setCells (hB6.alloc hB6.size _) _ _ _ hs6
          have hG7 : ((w6.alloc (.cells #[.int .i64 0, .int .i64 0, .int .i64 0, .int .i64 0, .int .i64 0, .int .i64 0, .int .i64 0, .int .i64 0, .int .i64 0, .int .i64 0, .int .i64 0, .int .i64 0, .int .i64 0, .int .i64 0, .int .i64 0, .int .i64 0, .int .i64 0, .int .i64 0, .int .i64 0, .int .i64 0] 89)).setCells w6.heap.size 0 (b6.map (Value.int .i64))).heap[w6.heap.size]? = some (.cells (bA b6) 89 (0, 0)) := store_b (heap_alloc_new w6 _) rfl hok6
          generalize (w6.alloc (.cells #[.int .i64 0, .int .i64 0, .int .i64 0, .int .i64 0, .int .i64 0, .int .i64 0, .int .i64 0, .int .i64 0, .int .i64 0, .int .i64 0, .int .i64 0, .int .i64 0, .int .i64 0, .int .i64 0, .int .i64 0, .int .i64 0, .int .i64 0, .int .i64 0, .int .i64 0, .int .i64 0] 89)).setCells w6.heap.size 0 (b6.map (Value.int .i64)) = w7 at hB7 hG7 ⊢
          generalize w6.heap.size = g7 at hG7 ⊢
          clear hth hb6
          have HB7 := Lib.hid (h5.trans (hB7.mono h5.size))
          have HG7 := Lib.hid hG7
          clear hB7 hG7 h5
          go_wp2_with fail
          refine wp_region_quiet_below (by kernel_rfl) (by kernel_rfl) ?_
          repeat (go_big_quiet_step (fail))
          refine wpQuiet_nil ?_
          intro _ hw'
          obtain ⟨⟨dq, osq⟩, hw''⟩ := hw'
          subst hw''
          obtain ⟨w8, hw8⟩ : ∃ x, x = grow (redrawn w7 dq) osq := ⟨_, rfl⟩
          rw [← hw8]
          have hB8 : Hid (Below wr.heap.size wr w8) := by unfold Hid; rw [hw8]; exact bnext HB7.out (below_regrown _ _ _)
          clear hw8
          go_wp2_with fail
          refine ⟨⟨i + 1, ys, by omega, by simp, HK.out.trans (KpB.ofBelow hB8.out HW0.out.size), ?_, ?_, HJ.out _ _ _ HJy.out hB8.out⟩, by simp [intOf]; omega⟩
          · exact (hB8.out.block _ (Array.getElem?_eq_some_iff.1 HR.out).1).trans HR.out
          · unfold Hid
            rw [flat_next _ HF.out, HY.out]
            have : extF db a rest b f = [] := by unfold extF; rw [HQ.out]
            rw [this, List.append_nil]
        · have hB7 : Below w5.heap.size w5 (w6.setCells w5.heap.size 0 (b6.map (Value.int .i64))) := below_setCells hB6 _ _ _ (Nat.le_refl _)
          have hG7 : (w6.setCells w5.heap.size 0 (b6.map (Value.int .i64))).heap[w5.heap.size]? = some (.cells (bA b6) 89 (0, 0)) := store_b (cs := #[.int .i64 0, .int .i64 0, .int .i64 0, .int .i64 0, .int .i64 0, .int .i64 0, .int .i64 0, .int .i64 0, .int .i64 0, .int .i64 0, .int .i64 0, .int .i64 0, .int .i64 0, .int .i64 0, .int .i64 0, .int .i64 0, .int .i64 0, .int .i64 0, .int .i64 0, .int .i64 0]) ((hb6.block _ (by simp [World.drew])).trans (heap_alloc_new w5.drew _)) rfl hok6
          generalize w6.setCells w5.heap.size 0 (b6.map (Value.int .i64)) = w7 at hB7 hG7 ⊢
          have hB75 := hB7
          have H5 := Lib.hid h5
          generalize hg5 : w5.heap.size = g7 at hG7 ⊢
          clear hth hb6
          have HB7 := Lib.hid (h5.trans (hB7.mono h5.size))
          have HG7 := Lib.hid hG7
          clear hB7 hG7 h5
          go_wp2_with fail
          refine wp_region_quiet_below (by kernel_rfl) (by kernel_rfl) ?_
          repeat (go_big_quiet_step (fail))
          refine wpQuiet_nil ?_
          intro _ hw'
          obtain ⟨⟨dq, osq⟩, hw''⟩ := hw'
          subst hw''
          obtain ⟨w8, hw8⟩ : ∃ x, x = grow (redrawn w7 dq) osq := ⟨_, rfl⟩
          rw [← hw8]
          have hB8 : Hid (Below wr.heap.size wr w8) := by unfold Hid; rw [hw8]; exact bnext HB7.out (below_regrown _ _ _)
          clear hw8
          go_wp2_with fail
          refine ⟨⟨i + 1, ys, by omega, by simp, HK.out.trans (KpB.ofBelow hB8.out HW0.out.size), ?_, ?_, HJ.out _ _ _ HJy.out hB8.out⟩, by simp [intOf]; omega⟩
          · exact (hB8.out.block _ (Array.getElem?_eq_some_iff.1 HR.out).1).trans HR.out
          · unfold Hid
            rw [flat_next _ HF.out, HY.out]
            have : extF db a rest b f = [] := by unfold extF; rw [HQ.out]
            rw [this, List.append_nil]
      | some b' =>
        have HQ := Lib.hid hq
        clear hq
        go_region_held3 (fun w' => Below w5.heap.size w5 w' ∧ w'.rangeAt W.heap.size 0 (b.map (Value.int .i64)) ∧ w'.cell? ⟨ab, aoff, none⟩ = some (.int .i64 r) ∧ w'.cell? ⟨ab, aoff + 1, none⟩ = some (.slice sa sn sc) ∧ w'.cell? ⟨wr.heap.size, 0, none⟩ = some (.int .i64 r') ∧ w'.cell? ⟨wr.heap.size, 1, none⟩ = some (.slice fa fm fc)) ((refine HBS.out _ ?_; go_split_ands; first | exact (Below.refl _ _).drew | assumption | exact bnext (by assumption) (by assumption) | exact Below.alloc (by assumption) (Below.size (by assumption)) _ | exact below_setCells (by assumption) _ _ _ (Nat.le_refl _) | exact below_setCells (by assumption) _ _ _ hs6)) ((go_at_call 151; (try go_split_ands); refine (hM5.out _ (H05.out.trans (Below.mono (by assumption) H05.out.size))).mono ?_; rintro e w6 ⟨b6, rfl, hok6, hx6, hb6⟩; obtain rfl := hx6 _ HQ.out; (try rw [HQ.out]); have hone6 := one_b b6; have hl6 := len_b hok6; have hB6 : Below w5.heap.size w5 w6 := bnext (by assumption) hb6; have hT6 := (fun g h => there_below h (by omega) hb6 : ∀ g, _ → World.there _ g 0 20); (try have hT5 : w6.there w5.heap.size 0 20 := hT6 _ (there_new _)); have hs6 : w5.heap.size ≤ w6.heap.size := Nat.le_trans (Below.size (by assumption)) hb6.size))
        · have hB7 : Below w5.heap.size w5 ((w6.alloc (.cells #[.int .i64 0, .int .i64 0, .int .i64 0, .int .i64 0, .int .i64 0, .int .i64 0, .int .i64 0, .int .i64 0, .int .i64 0, .int .i64 0, .int .i64 0, .int .i64 0, .int .i64 0, .int .i64 0, .int .i64 0, .int .i64 0, .int .i64 0, .int .i64 0, .int .i64 0, .int .i64 0] 89)).setCells w6.heap.size 0 (b6.map (Value.int .i64))) := below_setCells (hB6.alloc hB6.size _) _ _ _ hs6
          have hG7 : ((w6.alloc (.cells #[.int .i64 0, .int .i64 0, .int .i64 0, .int .i64 0, .int .i64 0, .int .i64 0, .int .i64 0, .int .i64 0, .int .i64 0, .int .i64 0, .int .i64 0, .int .i64 0, .int .i64 0, .int .i64 0, .int .i64 0, .int .i64 0, .int .i64 0, .int .i64 0, .int .i64 0, .int .i64 0] 89)).setCells w6.heap.size 0 (b6.map (Value.int .i64))).heap[w6.heap.size]? = some (.cells (bA b6) 89 (0, 0)) := store_b (heap_alloc_new w6 _) rfl hok6
          generalize (w6.alloc (.cells #[.int .i64 0, .int .i64 0, .int .i64 0, .int .i64 0, .int .i64 0, .int .i64 0, .int .i64 0, .int .i64 0, .int .i64 0, .int .i64 0, .int .i64 0, .int .i64 0, .int .i64 0, .int .i64 0, .int .i64 0, .int .i64 0, .int .i64 0, .int .i64 0, .int .i64 0, .int .i64 0] 89)).setCells w6.heap.size 0 (b6.map (Value.int .i64)) = w7 at hB7 hG7 ⊢
          generalize w6.heap.size = g7 at hG7 ⊢
          clear hth hb6
          have HB7 := Lib.hid (h5.trans (hB7.mono h5.size))
          have HG7 := Lib.hid hG7
          clear hB7 hG7 h5
          go_wp2_with fail
          refine wp_region_still_tail 7 (by kernel_rfl) (by kernel_rfl) ?_
          simp only [List.take_succ_cons, List.take_zero, List.drop_succ_cons, List.drop_zero]
          obtain ⟨w8, hw8⟩ : ∃ x, x = ({ w7 with drawn := w7.drawn + 1 } : World) := ⟨_, rfl⟩
          rw [← hw8]
          have hB8 : Hid (Below wr.heap.size wr w8) := by unfold Hid; rw [hw8]; exact HB7.out.drew
          have hG8 : w8.heap[g7]? = some (.cells (bA b6) 89 (0, 0)) := by rw [hw8]; exact HG7.out
          clear hw8
          repeat (first | ((with_reducible refine still_load_b ?_ _ rfl _ _ hok6 ?_ hG8 ?_); (focus rfl); (focus rfl)) | still_step)
          refine wpStill_nil ?_
          have hbound : (pre ++ ys).length + (extD db rest b6).length ≤ N := by
            have h1 := flat_next (extF db a rest b) HF.out
            have h2 := flat_le db (i + 1) (extF db a rest b)
            have h3 : extF db a rest b f = extD db rest b6 := by unfold extF; rw [HQ.out]
            have h4 := HNN.out
            have h5 := congrArg List.length HY.out
            rw [h1, h3, List.length_append] at h2
            rw [extD_cons] at h4
            rw [List.length_map] at h5
            rw [List.length_append]; omega
          have hcall := Lib.hid (HIH.out b6 _ (pre ++ ys) w8 hok6 HREST.out (HW0.out.trans (hB8.out.mono HW0.out.size)) (HJ.out _ _ _ HJy.out hB8.out) hbound)
          clear hbound hG8 hx6 hlb hl6
          go_wp2_with fail
          refine hcall.out.mono ?_
          rintro e w9 (⟨rfl, hk9, zs, hz, hJ9⟩ | ⟨rfl, zs, hz, hJx9⟩)
          · have HK9 := Lib.hid hk9
            have HZ := Lib.hid hz
            have HJ9 := Lib.hid hJ9
            clear hk9 hz hJ9
            go_wp2_with fail
            refine ⟨⟨i + 1, ys ++ zs, by omega, by simp, (HK.out.trans (KpB.ofBelow hB8.out HW0.out.size)).trans HK9.out, ?_, ?_, ?_⟩, by simp [intOf]; omega⟩
            · exact HK9.out.2 _ _ _ ((hB8.out.block _ (Array.getElem?_eq_some_iff.1 HR.out).1).trans HR.out)
            · unfold Hid
              have h3 : extF db a rest b f = extD db rest b6 := by unfold extF; rw [HQ.out]
              rw [flat_next _ HF.out, List.map_append, HY.out, HZ.out, h3]
            · unfold Hid; rw [← List.append_assoc]; exact HJ9.out
          · have HZ := Lib.hid hz
            have HJ9 := Lib.hid hJx9
            clear hz hJx9
            go_wp2_with fail
            go_ret
            refine .inr ⟨rfl, ys ++ zs, ?_, by rw [← List.append_assoc]; exact HJ9.out⟩
            obtain ⟨tl, htl⟩ := HZ.out
            have h3 : extF db a rest b f = extD db rest b6 := by unfold extF; rw [HQ.out]
            rw [List.map_append, HY.out, extD_cons]
            refine ⟨tl ++ (db.drop (i + 1)).flatMap (extF db a rest b), ?_⟩
            have h6 : db.flatMap (extF db a rest b) = (db.take (i + 1)).flatMap (extF db a rest b) ++ (db.drop (i + 1)).flatMap (extF db a rest b) := by rw [← List.flatMap_append, List.take_append_drop]
            rw [h6, flat_next _ HF.out, h3, ← htl]
            simp [List.append_assoc]
        · have hB7 : Below w5.heap.size w5 (w6.setCells w5.heap.size 0 (b6.map (Value.int .i64))) := below_setCells hB6 _ _ _ (Nat.le_refl _)
          have hG7 : (w6.setCells w5.heap.size 0 (b6.map (Value.int .i64))).heap[w5.heap.size]? = some (.cells (bA b6) 89 (0, 0)) := store_b (cs := #[.int .i64 0, .int .i64 0, .int .i64 0, .int .i64 0, .int .i64 0, .int .i64 0, .int .i64 0, .int .i64 0, .int .i64 0, .int .i64 0, .int .i64 0, .int .i64 0, .int .i64 0, .int .i64 0, .int .i64 0, .int .i64 0, .int .i64 0, .int .i64 0, .int .i64 0, .int .i64 0]) ((hb6.block _ (by simp [World.drew])).trans (heap_alloc_new w5.drew _)) rfl hok6
          generalize w6.setCells w5.heap.size 0 (b6.map (Value.int .i64)) = w7 at hB7 hG7 ⊢
          have hB75 := hB7
          have H5 := Lib.hid h5
          generalize hg5 : w5.heap.size = g7 at hG7 ⊢
          clear hth hb6
          have HB7 := Lib.hid (h5.trans (hB7.mono h5.size))
          have HG7 := Lib.hid hG7
          clear hB7 hG7 h5
          go_wp2_with fail
          refine wp_region_still_tail 7 (by kernel_rfl) (by kernel_rfl) ?_
          simp only [List.take_succ_cons, List.take_zero, List.drop_succ_cons, List.drop_zero]
          obtain ⟨w8, hw8⟩ : ∃ x, x = ({ w7 with drawn := w7.drawn + 1 } : World) := ⟨_, rfl⟩
          rw [← hw8]
          have hB8 : Hid (Below wr.heap.size wr w8) := by unfold Hid; rw [hw8]; exact HB7.out.drew
          have hG8 : w8.heap[g7]? = some (.cells (bA b6) 89 (0, 0)) := by rw [hw8]; exact HG7.out
          clear hw8
          repeat (first | ((with_reducible refine still_load_b ?_ _ rfl _ _ hok6 ?_ hG8 ?_); (focus rfl); (focus rfl)) | still_step)
          refine wpStill_nil ?_
          have hbound : (pre ++ ys).length + (extD db rest b6).length ≤ N := by
            have h1 := flat_next (extF db a rest b) HF.out
            have h2 := flat_le db (i + 1) (extF db a rest b)
            have h3 : extF db a rest b f = extD db rest b6 := by unfold extF; rw [HQ.out]
            have h4 := HNN.out
            have h5 := congrArg List.length HY.out
            rw [h1, h3, List.length_append] at h2
            rw [extD_cons] at h4
            rw [List.length_map] at h5
            rw [List.length_append]; omega
          have hcall := Lib.hid (HIH.out b6 _ (pre ++ ys) w8 hok6 HREST.out (HW0.out.trans (hB8.out.mono HW0.out.size)) (HJ.out _ _ _ HJy.out hB8.out) hbound)
          clear hbound hG8 hx6 hlb hl6
          go_wp2_with fail
          refine hcall.out.mono ?_
          rintro e w9 (⟨rfl, hk9, zs, hz, hJ9⟩ | ⟨rfl, zs, hz, hJx9⟩)
          · have HK9 := Lib.hid hk9
            have HZ := Lib.hid hz
            have HJ9 := Lib.hid hJ9
            clear hk9 hz hJ9
            go_wp2_with fail
            refine ⟨⟨i + 1, ys ++ zs, by omega, by simp, (HK.out.trans (KpB.ofBelow hB8.out HW0.out.size)).trans HK9.out, ?_, ?_, ?_⟩, by simp [intOf]; omega⟩
            · exact HK9.out.2 _ _ _ ((hB8.out.block _ (Array.getElem?_eq_some_iff.1 HR.out).1).trans HR.out)
            · unfold Hid
              have h3 : extF db a rest b f = extD db rest b6 := by unfold extF; rw [HQ.out]
              rw [flat_next _ HF.out, List.map_append, HY.out, HZ.out, h3]
            · unfold Hid; rw [← List.append_assoc]; exact HJ9.out
          · have HZ := Lib.hid hz
            have HJ9 := Lib.hid hJx9
            clear hz hJx9
            go_wp2_with fail
            go_ret
            refine .inr ⟨rfl, ys ++ zs, ?_, by rw [← List.append_assoc]; exact HJ9.out⟩
            obtain ⟨tl, htl⟩ := HZ.out
            have h3 : extF db a rest b f = extD db rest b6 := by unfold extF; rw [HQ.out]
            rw [List.map_append, HY.out, extD_cons]
            refine ⟨tl ++ (db.drop (i + 1)).flatMap (extF db a rest b), ?_⟩
            have h6 : db.flatMap (extF db a rest b) = (db.take (i + 1)).flatMap (extF db a rest b) ++ (db.drop (i + 1)).flatMap (extF db a rest b) := by rw [← List.flatMap_append, List.take_append_drop]
            rw [h6, flat_next _ HF.out, h3, ← htl]
            simp [List.append_assoc]
    · obtain rfl : i = dn := by omega
      go_wp2_with fail
      go_ret
      refine .inl ⟨rfl, HK.out, ys, ?_, HJy.out⟩
      rw [HY.out, List.take_of_length_le (by rw [HLD.out]; exact Nat.le_refl _)]
      rfl
end Go.Proofs.YtfojllkkbdpfkaaGreat

/-! I6each -/
namespace Go.Proofs.YtfojllkkbdpfkaaGreat
open Go Go.Sort Go.RowKit Go.Shelf
set_option linter.unusedVariables false
attribute [local go_sem] Oper.semAt_some

theorem iExt_any (W0 : World) (N l : Nat) (J Jx : List BB → World → Prop) (hJ : ∀ s W W', J s W → Below W.heap.size W W' → J s W') (hY : YieldsB W0.heap.size N l J Jx) (db : List (Int × List Int)) (vdb : Value) (hdb : RdAtomS W0 vdb db) :
    ∀ (al : List (Int × List Int)), (∀ x ∈ al, ∀ f ∈ db, x.1 = f.1 → f.2.length = x.2.length) → (∀ x ∈ al, ∀ t ∈ x.2, -80 ≤ t ∧ t < 20) →
    ∀ (b : List Int) (vat : Value) (pre : List BB) (W : World), OkB b → RdAtomS W0 vat al → Below W0.heap.size W0 W → J pre W → pre.length + (extD db al b).length ≤ N →
    Calls Tryz.prog 110 #[bV b, vat, vdb, .func (.yield l) #[] #[]] W (GaveExt W0.heap.size J Jx (extD db al b) pre W) := by
  intro al
  induction al with
  | nil =>
    intro _ _ b vat pre W hb hat hbW h0 hN
    obtain ⟨pa, an, ac, rfl, hat⟩ := hat
    obtain ⟨hla, _⟩ := hat.at
    obtain rfl : an = 0 := by simpa using hla.symm
    exact callsIn_wide.1 (iExt_nil W0.heap.size N l J Jx hJ hY 0 b hb pa ac vdb pre W hbW.size h0 (by simp [extD] at hN; omega))
  | cons a rest ih =>
    intro hlen hta b vat pre W hb hat hbW h0 hN
    exact iExt_cons W0 N l J Jx hJ db vdb hdb a rest (hlen a (by simp)) (hta a (by simp)) (ih (fun x hx => hlen x (by simp [hx])) (fun x hx => hta x (by simp [hx]))) b hb vat hat pre W hbW h0 hN

/-- All bindings, in the order in which they are found. -/
def bindI (s : List Int) (d : QueryD) (db : List AtomD) : List (List Int) := if fineB s d 4 = true ∧ isDbB s db = true then extD db d.2 (nob 20) else []
theorem fine_atom {s : List Int} {d : QueryD} {most : Int} (h : fineB s d most = true) : ∀ x ∈ d.2, isAtomB s x.1 x.2 = true := by
  unfold fineB at h
  simp only [Bool.and_eq_true] at h
  exact fun x hx => List.all_eq_true.1 h.2.2.2.1 x hx
theorem terms_ok {l : List Int} (h : termsB l = true) : ∀ t ∈ l, -80 ≤ t ∧ t < 20 := by
  intro t ht
  unfold termsB at h
  simp only [Bool.and_eq_true] at h
  have h2 := List.all_eq_true.1 h.1 t ht
  unfold termB varB conB at h2
  simp at h2
  omega
theorem fine_terms {s : List Int} {d : QueryD} {most : Int} (h : fineB s d most = true) : ∀ x ∈ d.2, ∀ t ∈ x.2, -80 ≤ t ∧ t < 20 := by
  intro x hx
  have h1 := fine_atom h x hx
  unfold isAtomB at h1
  simp only [Bool.and_eq_true] at h1
  exact terms_ok h1.2
theorem fine_head {s : List Int} {d : QueryD} {most : Int} (h : fineB s d most = true) : (∀ t ∈ d.1, -80 ≤ t ∧ t < 20) ∧ d.1.length ≤ 3 := by
  unfold fineB at h
  simp only [Bool.and_eq_true] at h
  have h2 := h.2.1
  refine ⟨terms_ok h2, ?_⟩
  unfold termsB at h2
  simp only [Bool.and_eq_true, decide_eq_true_eq] at h2
  exact h2.2
theorem db_at {s : List Int} {l : List AtomD} (h : isDbB s l = true) : ∀ (i : Nat), i < l.length → okAt s l i = true := by
  unfold isDbB at h
  simp only [Bool.and_eq_true] at h
  exact fun i hi => List.all_eq_true.1 h.1 i (List.mem_range.2 hi)
theorem db_fact {s : List Int} {l : List AtomD} (h : isDbB s l = true) : ∀ f ∈ l, isFactB s f.1 f.2 = true := by
  intro f hf
  obtain ⟨i, hi⟩ := List.mem_iff_getElem?.1 hf
  have h1 := db_at h i (List.getElem?_eq_some_iff.1 hi).1
  unfold okAt at h1
  simp only [Bool.and_eq_true] at h1
  have h2 := h1.1
  rw [getF_at hi] at h2
  exact h2
theorem fine_len2 {s : List Int} {d : QueryD} {db : List AtomD} {most : Int} (h : fineB s d most = true) (h2 : isDbB s db = true) : ∀ x ∈ d.2, ∀ f ∈ db, x.1 = f.1 → f.2.length = x.2.length := by
  intro x hx f hf e
  have h3 := fine_atom h x hx
  have h4 := db_fact h2 f hf
  unfold isAtomB at h3
  unfold isFactB at h4
  simp only [Bool.and_eq_true, decide_eq_true_eq] at h3 h4
  have h5 := h3.1.2
  have h6 := h4.1.2
  rw [e] at h5
  omega

/-- What the iterator leaves. -/
def GaveEach (J Jx : List BB → World → Prop) (out : List (List Int)) (e : Ending) (W' : World) : Prop := (∃ v, e = .returned v) ∧ ((∃ xs : List BB, xs.map (·.1) = out ∧ J xs W') ∨ (∃ pre : List BB, pre.map (·.1) <+: out ∧ Jx pre W'))

def EachFin (J Jx : List BB → World → Prop) (out : List (List Int)) (W' : World) : Prop := (∃ xs : List BB, xs.map (·.1) = out ∧ J xs W') ∨ (∃ pre : List BB, pre.map (·.1) <+: out ∧ Jx pre W')
theorem ext_fin {n₀ : Nat} {J Jx : List BB → World → Prop} {out : List (List Int)} {W W' : World} {e : Ending} (h : GaveExt n₀ J Jx out [] W e W') : ∃ t : Bool, e = .returned (.bool t) ∧ Hid (EachFin J Jx out W') := by
  rcases h with ⟨rfl, _, ys, h1, h2⟩ | ⟨rfl, ys, h1, h2⟩
  · exact ⟨true, rfl, .inl ⟨ys, h1, h2⟩⟩
  · exact ⟨false, rfl, .inr ⟨ys, h1, h2⟩⟩

set_option maxRecDepth 100000 in
set_option maxHeartbeats 8000000 in
theorem iEach1_any (W0 W : World) (l : Nat) (J Jx : List BB → World → Prop) (hJ : ∀ s W W', J s W → Below W.heap.size W W' → J s W') (vs vq vdb : Value) (s : List Int) (d : QueryD) (db : List AtomD)
    (hs : RdSchema W0 vs s) (hq : RdQuery W0 vq d) (hdb : RdAtomS W0 vdb db) (hz1 : sizeAtomS d.2 ≤ 1048576) (hz2 : sizeAtomS db ≤ 1048576)
    (hY : YieldsB W0.heap.size (bindI s d db).length l J Jx) (hbW : Below W0.heap.size W0 W) (B1 B2 B3 : Nat)
    (g1 : W.heap[B1]? = some (.cells vs.cells 34 (0, 0))) (g2 : W.heap[B2]? = some (.cells vq.cells 38 (0, 0))) (g3 : W.heap[B3]? = some (.cells #[vdb] 40 (0, 0))) (h0 : J [] W) :
    Calls Tryz.prog 107 #[.func (.yield l) #[] #[], .pointer (some ⟨B1, 0, none⟩), .pointer (some ⟨B2, 0, none⟩), .pointer (some ⟨B3, 0, none⟩)] W (GaveEach J Jx (bindI s d db)) := by
  have hQ := Lib.hid (fun W hb => iIsQuery_any W vs vq s d (RdSchema.below hs hb) (RdQuery.below hq hb) hz1)
  have hD := Lib.hid (fun W hb => iIsDb_any W vs vdb s db (RdSchema.below hs hb) (RdAtomS.below hdb hb) hz2)
  have hN := Lib.hid (fun W => iNoBinding_any W)
  have hE := Lib.hid (fun h1 h2 h3 => iExt_any W0 (bindI s d db).length l J Jx hJ hY db vdb hdb d.2 h1 h2 h3)
  have HQ := Lib.hid hq
  obtain ⟨sa, sn, sc, rfl, hs⟩ := hs
  obtain ⟨a1, n1, c1, a2, n2, c2, rfl, hq1, hq2⟩ := hq
  obtain ⟨da, dn, dc, rfl, hd5⟩ := hdb
  have e0 : W.cell? ⟨B1, 0, none⟩ = some (.slice sa sn sc) := cell_of_row _ _ 0 _ _ _ g1
  have e1 : W.cell? ⟨B2, 0, none⟩ = some (.slice a1 n1 c1) := cell_of_row _ _ 0 _ _ _ g2
  have e2 : W.cell? ⟨B2, 1, none⟩ = some (.slice a2 n2 c2) := cell_of_row _ _ 1 _ _ _ g2
  have e3 : W.cell? ⟨B3, 0, none⟩ = some (.slice da dn dc) := cell_of_row _ _ 0 _ _ _ g3
  have E0 := Lib.hid e0
  have E1 := Lib.hid e1
  have E2 := Lib.hid e2
  have E3 := Lib.hid e3
  have HBW := Lib.hid hbW
  have HJ := Lib.hid hJ
  have HJ0 := Lib.hid h0
  have HBODY : Hid (RdAtomS W0 (.slice a2 n2 c2) d.2) := ⟨_, _, _, rfl, hq2⟩
  clear hs hq1 hq2 hd5 hbW hJ h0 g1 g2 g3 hY hz1 hz2
  by_cases hf : fineB s d 4 = true
  · rw [hf] at hQ
    cases hd : isDbB s db with
    | true =>
      rw [hd] at hD
      have HBX : Hid (bindI s d db = extD db d.2 (nob 20)) := by unfold Hid bindI; rw [if_pos ⟨hf, hd⟩]
      have hE2 := Lib.hid (fun vat pre W h1 h2 h3 h4 => hE.out (fine_len2 hf hd) (fine_terms hf) (nob 20) vat pre W (nob_ok (Nat.le_refl _)) h1 h2 h3 h4)
      clear hE hf hd
      go_enter Tryz.func107, Tryz.ntmps107
      go_wp2_with fail
      refine (hQ.out _ HBW.out).mono ?_
      rintro e w2 ⟨rfl, hb2⟩
      have HB2 := Lib.hid hb2
      have f0 := cellk hb2 E0.out
      have f1 := cellk hb2 E1.out
      have f2 := cellk hb2 E2.out
      have f3 := cellk hb2 E3.out
      have F3 := Lib.hid f3
      have F2 := Lib.hid f2
      clear hb2 e0 e1 e2 e3 f1
      go_wp2_with fail
      refine (hD.out _ (bnext HBW.out HB2.out)).mono ?_
      rintro e w3 ⟨rfl, hb3⟩
      have HB3 := Lib.hid (bnext HB2.out hb3)
      have k2 := cellk hb3 F2.out
      have k3 := cellk hb3 F3.out
      have HJ3 := Lib.hid (HJ.out _ _ _ HJ0.out HB3.out)
      clear hb3 f0 f2 f3
      go_wp2_with fail
      go_region_law (first
        | (go_simp; go_at_call 109; refine (hN.out _).mono ?_; rintro e w4 ⟨rfl, hb4⟩; have q2 := cellk hb4 k2; have q3 := cellk hb4 k3; have HB4 := Lib.hid (bnext HB3.out (bnext (Below.refl _ _).drew hb4)))
        | (go_simp; go_at_call 110; refine (hE2.out _ [] _ HBODY.out (bnext HBW.out HB4.out) (HJ.out _ _ _ HJ0.out HB4.out) (by rw [HBX.out]; simp)).mono (fun e w5 h5 => ?_); obtain ⟨t, rfl, hfin⟩ := ext_fin h5))
      all_goals (go_wp2_with fail)
      all_goals go_end0
      all_goals (refine ⟨⟨_, rfl⟩, ?_⟩; rw [HBX.out]; exact hfin.out)
    | false =>
      rw [hd] at hD
      have HBX : Hid (bindI s d db = []) := by unfold Hid bindI; rw [if_neg (by rw [hd]; simp)]
      clear hE hf hd
      go_enter Tryz.func107, Tryz.ntmps107
      go_wp2_with fail
      refine (hQ.out _ HBW.out).mono ?_
      rintro e w2 ⟨rfl, hb2⟩
      have HB2 := Lib.hid hb2
      have f0 := cellk hb2 E0.out
      have f3 := cellk hb2 E3.out
      clear hb2 e0 e1 e2 e3
      go_wp2_with fail
      refine (hD.out _ (bnext HBW.out HB2.out)).mono ?_
      rintro e w3 ⟨rfl, hb3⟩
      have HB3 := Lib.hid (bnext HB2.out hb3)
      clear hb3 f0 f3
      go_wp2_with fail
      go_end0
      exact ⟨⟨_, rfl⟩, .inl ⟨[], by rw [HBX.out]; rfl, HJ.out _ _ _ HJ0.out HB3.out⟩⟩
  · have hff : fineB s d 4 = false := by simpa using hf
    rw [hff] at hQ
    have HBX : Hid (bindI s d db = []) := by unfold Hid bindI; rw [if_neg (by rw [hff]; simp)]
    clear hE hf hff
    go_enter Tryz.func107, Tryz.ntmps107
    go_wp2_with fail
    refine (hQ.out _ HBW.out).mono ?_
    rintro e w2 ⟨rfl, hb2⟩
    have HB2 := Lib.hid hb2
    clear hb2 e0 e1 e2 e3
    go_wp2_with fail
    go_end0
    exact ⟨⟨_, rfl⟩, .inl ⟨[], by rw [HBX.out]; rfl, HJ.out _ _ _ HJ0.out HB2.out⟩⟩
/-- Called with three boxes: an iterator over all bindings. -/
theorem eachStops (W0 w : World) (vs vq vdb : Value) (s : List Int) (d : QueryD) (db : List AtomD)
    (hs : RdSchema W0 vs s) (hq : RdQuery W0 vq d) (hdb : RdAtomS W0 vdb db) (hz1 : sizeAtomS d.2 ≤ 1048576) (hz2 : sizeAtomS db ≤ 1048576)
    (hbW : Below W0.heap.size W0 w) (B1 B2 B3 : Nat)
    (g1 : w.heap[B1]? = some (.cells vs.cells 34 (0, 0))) (g2 : w.heap[B2]? = some (.cells vq.cells 38 (0, 0))) (g3 : w.heap[B3]? = some (.cells #[vdb] 40 (0, 0))) (n : Nat) :
    SeqStopsK Fence.wide n Tryz.prog 107 #[.pointer (some ⟨B1, 0, none⟩), .pointer (some ⟨B2, 0, none⟩), .pointer (some ⟨B3, 0, none⟩)] encB (KpB W0.heap.size)
      (fun xs => xs.map (·.1) = bindI s d db) (fun pre => pre.map (·.1) <+: bindI s d db) (bindI s d db).length w := fun l J Jx W hW hJ hJx hY h0 => by
  refine callsIn_wide.2 ((iEach1_any W0 W l J Jx (fun s1 U1 U2 h1 h2 => abides_below hJ h1 h2) vs vq vdb s d db hs hq hdb hz1 hz2 (fun m pre x W1 h1 h2 => yield_any rfl m (hY pre x W1 h1 h2)) (bnext hbW hW) B1 B2 B3
    ((hW.block _ (Array.getElem?_eq_some_iff.1 g1).1).trans g1) ((hW.block _ (Array.getElem?_eq_some_iff.1 g2).1).trans g2) ((hW.block _ (Array.getElem?_eq_some_iff.1 g3).1).trans g3) h0).mono fun e W' ⟨h1, h2⟩ => ⟨h1, h2⟩)
end Go.Proofs.YtfojllkkbdpfkaaGreat

/-! I6round -/
namespace Go.Proofs.YtfojllkkbdpfkaaGreat
open Go Go.Sort Go.RowKit
set_option linter.unusedVariables false

section
variable {P : Program} {l n : Nat}
theorem callsR {f : FuncId} {args : Array Value} {w : World} {R : Ending → World → Prop} (h : Calls P f args w R) : CallsIn (Fence.wide.inRound l) n P f args w R := CallsIn.inRound l (callsIn_wide.2 h)
theorem rowsR {row : String} {args : Array Value} {w : World} {R : Value → World → Prop} (h : Rows P row args w R) : RowsIn (Fence.wide.inRound l) n P row args w R :=
  fun c cs _ => let ⟨v, w', r, s⟩ := h c cs; ⟨v, w', r, stepsIn_wide.2 s⟩
theorem wpIn_of_wp {o : Oper} {a : Act} {w : World} {K : Act → World → Prop} {Q : Exit → Act → World → Prop} (hnd : ∀ c, o.op ≠ .defer c) (h : o.wp P a w K Q) : o.wpIn (Fence.wide.inRound l) n P a w K Q := by
  refine ⟨fun _ _ => trivial, ?_⟩
  rw [Oper.semAt_eq _ _ _ hnd]
  unfold Oper.wp at h
  generalize (execOp a.eval o).run P w = r at *
  cases r with
  | ok x w' =>
    cases x <;> simp only [Oper.upon, Oper.uponIn] at h ⊢ <;>
      first
        | exact h
        | exact ⟨fun hh => (by cases hh), callsR h⟩
        | exact ⟨fun hh => (by cases hh), rowsR h⟩
  | halt x w' => cases x <;> simp only [Oper.upon, Oper.uponIn] at h ⊢ <;> exact h
def noDefer (o : Oper) : Bool := match o.op with | .defer _ => false | _ => true
theorem noDefer_spec {ops : Array Oper} (h : ops.all noDefer = true) : ∀ (i : Nat) (o : Oper), ops[i]? = some o → ∀ c, o.op ≠ .defer c := by
  intro i o ho c e
  have := Array.all_eq_true_iff_forall_mem.1 h o (Array.mem_of_getElem? ho)
  unfold noDefer at this
  rw [e] at this
  cases this
theorem wpOpIn_of_qOp {ops : Array Oper} {C : World → Prop} {Q : Exit → Act → World → Prop} (hnd : ∀ (i : Nat) (o : Oper), ops[i]? = some o → ∀ c, o.op ≠ .defer c) {i : Nat} {a : Act} {K : Act → Prop} {K' : Act → World → Prop} {w : World} (hC : C w) (h : ∀ a w', C w' → K a → K' a w') (hh : qOp P ops C i K a) : wpOpIn (Fence.wide.inRound l) n P ops Q i K' a w := by
  unfold qOp at hh
  unfold wpOpIn
  split
  · rename_i ho; simp only [ho] at hh; exact h _ _ hC hh
  · rename_i o ho
    simp only [ho] at hh
    split
    · rename_i hw; simp only [hw, if_true] at hh; exact wpIn_of_wp (hnd i o ho) (Oper.wp_of_quiet hC h hh)
    · rename_i hw; simp only [hw] at hh; exact ⟨fun _ _ => trivial, h _ _ hC hh⟩
theorem wpAnyIn_of_quiet {md : Region.Mode} {ops : Array Oper} {C : World → Prop} {Q : Act → Prop} {Q' : Exit → Act → World → Prop} (hnd : ∀ (i : Nat) (o : Oper), ops[i]? = some o → ∀ c, o.op ≠ .defer c) (hQ : ∀ a w, C w → Q a → Q' .normal a w) : ∀ (fuel : Nat) (listed : Array Bool) (a : Act) (w : World), C w →
    wpAnyQ P md ops C Q fuel listed a → wpAnyIn (Fence.wide.inRound l) n P md ops Q' fuel listed a w
  | 0, _, _, _, hw, h => ⟨h.1, hQ _ _ hw h.2⟩
  | fuel + 1, _, _, _, hw, h => ⟨fun h0 => hQ _ _ hw (h.1 h0), fun i hi => wpOpIn_of_qOp hnd hw (fun a' w' hw' => wpAnyIn_of_quiet hnd hQ fuel _ a' w' hw') (h.2 i hi)⟩
/-- .. whose operations only read and whose callees leave what was there. -/
theorem wpIn_region_quiet {id : Nat} {Q : Exit → Act → World → Prop} {a : Act} {w : World} {lst : List Oper} (hm : P.follows .mixedOrders = true) (hB : Region.lexB .any lst.toArray = true) (hd : lst.toArray.all noDefer = true)
    (h : wpQuiet P lst.toArray (fun w' => ∃ p : Regrown, w' = grow (redrawn w p.d) p.os) (fun a' => ∀ w', (∃ p : Regrown, w' = grow (redrawn w p.d) p.os) → Q .normal a' w') lst a) : (Code.region id lst.toArray true).wpIn (Fence.wide.inRound l) n P Q a w := by
  refine wpIn_region_any hm ?_
  simp only [Region.lexB, Bool.and_eq_true] at hB
  refine wpAnyIn_of_quiet (noDefer_spec hd) (C := fun w' => ∃ p : Regrown, w' = grow (redrawn w p.d) p.os) (Q := fun a' => ∀ w', (∃ p : Regrown, w' = grow (redrawn w p.d) p.os) → Q .normal a' w') (fun _ w' hw' h => h w' hw') _ _ _ _ ⟨⟨w.drawn + 1, #[]⟩, by rw [grow_empty]; rfl⟩ ?_
  have := wpAnyQ_lex (C := fun w' => ∃ p : Regrown, w' = grow (redrawn w p.d) p.os) (md := .any) hB.1 lst.toArray.toList 0 (Array.replicate lst.toArray.size false) a (by simp) (by simpa using hB.2) (by simpa using h)
  simpa using this
end
theorem wpListIn_store_b {l n : Nat} {ops : Array Oper} {rest : List Oper} {o : Oper} {a : Act} {w : World} {Q : Exit → Act → World → Prop} (hgd : o.guard = none) (x y : Operand) (ho : o.op = .store 89 x y)
    (g : Nat) (b : List Int) (hok : OkB b) (old : Array Value) (hsz : old.size = 20) (hx : a.eval x = .pointer (some ⟨g, 0, none⟩)) (hy : a.eval y = bV b) (hg : w.heap[g]? = some (.cells old 89 (0, 0)))
    (h : wpListIn (Fence.wide.inRound l) n Tryz.prog ops Q rest (a.put o.dst undef) (w.setRow g (bA b))) : wpListIn (Fence.wide.inRound l) n Tryz.prog ops Q (o :: rest) a w :=
  wpListIn_plain hgd fun K hK => wpIn_of_wp (fun c e => by rw [ho] at e; cases e) (by
    unfold Oper.wp execOp
    have hr := run_storeVar_row (P := Tryz.prog) w g 89 89 old (bA b) hg (by rw [bA_size hok]; exact info_b) (by rw [hsz, bA_size hok]) (bA_one b)
    simp only [ho, hx, hy, bV, Instr.storeAt, Instr.sureAddr, Sem.run_bind, Sem.run_pure, Result.andThen_ok, hr]
    exact hK _ _ h)
end Go.Proofs.YtfojllkkbdpfkaaGreat

/-! I6isans -/
namespace Go.Proofs.YtfojllkkbdpfkaaGreat
open Go Go.Sort Go.RowKit Go.Shelf
set_option linter.unusedVariables false
attribute [local go_sem] Oper.semAt_some

set_option maxHeartbeats 1000000 in
theorem iEach_any (w : World) (sa : Option Addr) (sn sc : Nat) (a1 : Option Addr) (n1 c1 : Nat) (a2 : Option Addr) (n2 c2 : Nat) (da : Option Addr) (dn dc : Nat) :
    Calls Tryz.prog 66 #[.agg #[.slice sa sn sc], .agg #[.slice a1 n1 c1, .slice a2 n2 c2], .slice da dn dc] w (fun e w' =>
      e = .returned (.func (.func 107) #[] #[.pointer (some ⟨w.heap.size, 0, none⟩), .pointer (some ⟨w.heap.size + 1, 0, none⟩), .pointer (some ⟨w.heap.size + 1 + 1, 0, none⟩)]) ∧
      w' = (((w.alloc (.cells #[.slice sa sn sc] 34)).alloc (.cells #[.slice a1 n1 c1, .slice a2 n2 c2] 38)).alloc (.cells #[.slice da dn dc] 40))) := by
  have hmf : ∀ (fn : Fn) (first cap : Array Value) (w : World), (Instr.makeFunc fn first cap).run Tryz.prog w = .ok (.func fn first cap) w := fun _ _ _ _ => rfl
  go_enter Tryz.func66, Tryz.ntmps66
  go_wp2
  go_ret
  exact ⟨rfl, rfl⟩

theorem kpB_b {n₀ : Nat} {w : World} (hn : n₀ ≤ w.heap.size) (W : World) (l : Nat) (o o' : Obj) (hl : w.heap.size ≤ l) (h : W.heap[l]? = some o) (hc : o.isCells = false) (hw : o.isWalk = false) : KpB n₀ W (W.putObj l o') :=
  ⟨belowK_b hn W l o o' hl h hc hw, fun k c fr hk => (grownBy_putObj' W l o').block k (Array.getElem?_eq_some_iff.1 hk).1 (fun e => by cases e; rw [h] at hk; cases hk; cases hc) |>.trans hk⟩
theorem own_block {β : Type} (B k : Nat) (c : β → Array Value) (T : TypeId) : OwnFrom B (fun s W => W.heap[k]? = some (.cells (c s) T (0, 0))) := fun s A B' row hs hg hr =>
  (hg.block k (Array.getElem?_eq_some_iff.1 hs).1 (fun e => by obtain ⟨_, o, ho, hc⟩ := hr k e.symm; rw [show A.heap[k]? = _ from hs] at ho; cases ho; cases hc)).trans hs
theorem own_below {β : Type} (B : Nat) (w0 : World) (hB : w0.heap.size ≤ B) : OwnFrom (β := β) B (fun _ W => Below w0.heap.size w0 W) := fun s A B' row hs hg hr => Below.grown hs hg hs.size (fun k e => Nat.le_trans hB (hr k e).1)
theorem own_pure {β : Type} (B : Nat) (p : β → Prop) : OwnFrom B (fun s _ => p s) := fun s A B' row hs hg hr => hs
theorem keepsFrom_below {B : Nat} {W W' : World} (h : Below W.heap.size W W') : KeepsFrom B W W' := ⟨h.size, fun k o _ hk _ => (h.block k (Array.getElem?_eq_some_iff.1 hk).1).trans hk⟩
theorem bind_fine {s : List Int} {d : QueryD} {db : List AtomD} {k : Nat} (h : k < (bindI s d db).length) : fineB s d 4 = true ∧ isDbB s db = true := by
  unfold bindI at h
  split at h
  · rename_i hh; exact hh
  · simp at h
theorem eql_tri (w : World) (x y z x' y' z' : Int) :
    (binOp .eql 100 (.agg #[.int .i64 x, .int .i64 y, .int .i64 z]) (.agg #[.int .i64 x', .int .i64 y', .int .i64 z'])).run Tryz.prog w = .ok (.bool (decide (x = x' ∧ y = y' ∧ z = z'))) w := by
  rw [run_eql_struct, eq_tri w 9998]; rfl
def t3 (l : List Int) : Int × Int × Int := (l.getD 0 0, l.getD 1 0, l.getD 2 0)
/-- Whether a tuple is an answer, as the program finds it. -/
def isAnsI (s : List Int) (d : QueryD) (db : List AtomD) (tup : List Int) : Bool := decide (tup.length = d.1.length) && (bindI s d db).any (fun b => decide (t3 (d.1.map (valD b)) = t3 tup))

theorem results_bool {fn : Func} {p : Tmp} (h : fn.results = #[.cell p 4]) (tmps : Array Value) (w : World) (g : Nat) (v : Value) (hp : tmps.getD p undef = .pointer (some ⟨g, 0, none⟩)) (hc : w.cell? ⟨g, 0, none⟩ = some v) :
    (results fn tmps).run Tryz.prog w = .ok v w := by
  have hp' : tmps[p]?.getD undef = .pointer (some ⟨g, 0, none⟩) := by simpa using hp
  simp [results, h, hp', asAddr, go_sem, hc]
theorem put_block (W : World) (D : Nat) (o' : Obj) {k : Nat} {o : Obj} (h : W.heap[k]? = some o) (hk : k ≠ D) : (W.putObj D o').heap[k]? = some o :=
  ((grownBy_putObj' W D o').block k (Array.getElem?_eq_some_iff.1 h).1 (fun e => by cases e; exact hk rfl)).trans h

set_option maxRecDepth 100000 in
set_option maxHeartbeats 8000000 in
theorem iIsAnswer_any (w : World) (vs vq vdb vt : Value) (s : List Int) (d : QueryD) (db : List AtomD) (tup : List Int) (hs : RdSchema w vs s) (hq : RdQuery w vq d) (hdb : RdAtomS w vdb db) (ht : Ints w vt tup) (hz1 : sizeAtomS d.2 ≤ 1048576) (hz2 : sizeAtomS db ≤ 1048576) :
    Calls Tryz.prog 48 #[vs, vq, vdb, vt] w (GaveBool w (isAnsI s d db tup)) := by
  have HST := Lib.hid (fun W hbW B1 B2 B3 g1 g2 g3 n => eachStops w W vs vq vdb s d db hs hq hdb hz1 hz2 hbW B1 B2 B3 g1 g2 g3 n)
  have HF := Lib.hid (fun W h => iFirst_any W vt tup h)
  have HTUP := Lib.hid (fun W b vh hb hh h3 => iTuple_any W b d.1 vh hb hh h3)
  have HT := Lib.hid ht
  have HQ := Lib.hid hq
  obtain ⟨sa, sn, sc, rfl, hs⟩ := hs
  obtain ⟨a1, n1, c1, a2, n2, c2, rfl, hq1, hq2⟩ := hq
  obtain ⟨da, dn, dc, rfl, hd5⟩ := hdb
  obtain ⟨ta, tc, rfl⟩ := ht.form
  obtain ⟨ha, hc, hq1f⟩ := hq1.form
  cases hq1f
  have HQ1 := Lib.hid hq1
  have HE := Lib.hid (fun W => iEach_any W sa sn sc a1 d.1.length c1 a2 n2 c2 da dn dc)
  clear hs hq1 hq2 hd5 ht hz1 hz2
  by_cases hln : tup.length = d.1.length
  · generalize hm : d.1.length = m at *
    rw [hln] at HF
    generalize hm2 : tup.length = m' at *
    refine (callsIn_wide (n := 6)).1 ?_
    refine callsIn_of_wp_marks Tryz.func48 rfl trivial ?_ rfl
    simp only [Tryz.ntmps48, List.size_toArray, List.length_cons, List.length_nil, Nat.reduceAdd, Nat.reduceSub, Array.replicate_succ, Array.replicate_zero, List.push_toArray, List.append_toArray, List.nil_append, List.cons_append]
    have hB3 : Hid (Below w.heap.size w (((w.alloc (.cells #[.slice sa sn sc] 34)).alloc (.cells #[.slice a1 m c1, .slice a2 n2 c2] 38)).alloc (.cells #[.bool false] 4))) := ((below_alloc w _).trans ((below_alloc _ _).mono (by simp))).trans ((below_alloc _ _).mono (by simp; omega))
    subst hln
    obtain ⟨x0, hx0⟩ : ∃ x, x = tup.getD 0 0 := ⟨_, rfl⟩
    obtain ⟨x1, hx1⟩ : ∃ x, x = tup.getD 1 0 := ⟨_, rfl⟩
    obtain ⟨x2, hx2⟩ : ∃ x, x = tup.getD 2 0 := ⟨_, rfl⟩
    have htri : tri tup = .agg #[.int .i64 x0, .int .i64 x1, .int .i64 x2] := by rw [hx0, hx1, hx2]; rfl
    have HX : Hid (t3 tup = (x0, x1, x2)) := by unfold Hid; rw [hx0, hx1, hx2]; rfl
    rw [htri] at HF
    clear htri hx0 hx1 hx2
    gi_wp2_with (fail)
    refine ⟨trivial, ?_⟩
    refine (callsIn_wide.2 (HF.out _ (HT.out.below hB3.out))).mono ?_
    rintro e w2 ⟨rfl, hb2⟩
    have HB2 := Lib.hid (bnext hB3.out hb2)
    have b0 : w2.heap[w.heap.size]? = some (.cells #[.slice sa sn sc] 34 (0, 0)) := (hb2.block _ (by simp; omega)).trans ((Below.heap_alloc _ _ _ (by simp; omega)).trans ((Below.heap_alloc _ _ _ (by simp)).trans (heap_alloc_new w _)))
    have b1 : w2.heap[w.heap.size + 1]? = some (.cells #[.slice a1 m' c1, .slice a2 n2 c2] 38 (0, 0)) := (hb2.block _ (by simp)).trans ((Below.heap_alloc _ _ _ (by simp)).trans (by have := heap_alloc_new (w.alloc (.cells #[.slice sa sn sc] 34)) (.cells #[.slice a1 m' c1, .slice a2 n2 c2] 38); simpa using this))
    have k0 := fun o => cellk (below_alloc w2 o) (cell_of_row _ _ 0 _ _ _ b0 : w2.cell? ⟨w.heap.size, 0, none⟩ = some (.slice sa sn sc))
    have k1 := fun o => cellk (below_alloc w2 o) (cell_of_row _ _ 0 _ _ _ b1 : w2.cell? ⟨w.heap.size + 1, 0, none⟩ = some (.slice a1 m' c1))
    have k2 := fun o => cellk (below_alloc w2 o) (cell_of_row _ _ 1 _ _ _ b1 : w2.cell? ⟨w.heap.size + 1, 1, none⟩ = some (.slice a2 n2 c2))
    have g3 : w2.heap[w.heap.size + 1 + 1]? = some (.cells #[.bool false] 4 (0, 0)) := (hb2.block _ (by simp)).trans (by have := heap_alloc_new ((w.alloc (.cells #[.slice sa sn sc] 34)).alloc (.cells #[.slice a1 m' c1, .slice a2 n2 c2] 38)) (.cells #[.bool false] 4); simpa using this)
    clear hb2
    gi_wp2_with (fail)
    refine ⟨trivial, ?_⟩
    refine (callsIn_wide.2 (HE.out _)).mono ?_
    rintro e w4 ⟨rfl, hw4⟩
    have B1 := Lib.hid b1
    have G3 := Lib.hid g3
    clear k0 k1 k2 b0 b1 g3
    gi_wp2_with (fail)
    rw [← hw4]
    have h24 : Below w2.heap.size w2 w4 := by rw [hw4]; exact (((below_alloc w2 _).trans ((below_alloc _ _).mono (by simp))).trans ((below_alloc _ _).mono (by simp; omega))).trans ((below_alloc _ _).mono (by simp; omega))
    have hs4 : w4.heap.size = w2.heap.size + 4 := by rw [hw4]; simp
    have e1 : w4.heap[w2.heap.size + 1]? = some (.cells #[.slice sa sn sc] 34 (0, 0)) := by
      rw [hw4]; refine (Below.heap_alloc _ _ _ (by simp)).trans ((Below.heap_alloc _ _ _ (by simp)).trans ?_)
      have := heap_alloc_new (w2.alloc (.cells #[.int .i64 x0, .int .i64 x1, .int .i64 x2] 100)) (.cells #[.slice sa sn sc] 34); simpa using this
    have e2 : w4.heap[w2.heap.size + 1 + 1]? = some (.cells #[.slice a1 m' c1, .slice a2 n2 c2] 38 (0, 0)) := by
      rw [hw4]; refine (Below.heap_alloc _ _ _ (by simp)).trans ?_
      have := heap_alloc_new ((w2.alloc (.cells #[.int .i64 x0, .int .i64 x1, .int .i64 x2] 100)).alloc (.cells #[.slice sa sn sc] 34)) (.cells #[.slice a1 m' c1, .slice a2 n2 c2] 38); simpa using this
    have e3 : w4.heap[w2.heap.size + 1 + 1 + 1]? = some (.cells #[.slice da dn dc] 40 (0, 0)) := by
      rw [hw4]
      have := heap_alloc_new (((w2.alloc (.cells #[.int .i64 x0, .int .i64 x1, .int .i64 x2] 100)).alloc (.cells #[.slice sa sn sc] 34)).alloc (.cells #[.slice a1 m' c1, .slice a2 n2 c2] 38)) (.cells #[.slice da dn dc] 40); simpa using this
    have e0 : w4.heap[w2.heap.size]? = some (.cells #[.int .i64 x0, .int .i64 x1, .int .i64 x2] 100 (0, 0)) := by
      rw [hw4]; exact (Below.heap_alloc _ _ _ (by simp; omega)).trans ((Below.heap_alloc _ _ _ (by simp; omega)).trans ((Below.heap_alloc _ _ _ (by simp)).trans (heap_alloc_new w2 _)))
    have eq1 := (h24.block _ (Array.getElem?_eq_some_iff.1 B1.out).1).trans B1.out
    have eR := (h24.block _ (Array.getElem?_eq_some_iff.1 G3.out).1).trans G3.out
    have hB4 : Below w.heap.size w w4 := bnext HB2.out h24
    have hR2 : w.heap.size + 1 + 1 < w4.heap.size := (Array.getElem?_eq_some_iff.1 eR).1
    clear hw4
    refine wpIn_rangeFunc_ownH rfl (by omega) (gf := 107) (lb := #[.pointer (some ⟨w2.heap.size + 1, 0, none⟩), .pointer (some ⟨w2.heap.size + 1 + 1, 0, none⟩), .pointer (some ⟨w2.heap.size + 1 + 1 + 1, 0, none⟩)]) rfl trivial (enters_of Tryz.func107 (by kernel_rfl) rfl)
      (HST.out w4 hB4 _ _ _ e1 e2 e3 5) KpB.trans (kpB_b hB4.size) (Below.refl _ _) (fun _ => rfl)
      (fun pre W => Below w4.heap.size w4 W ∧ ∀ x ∈ pre, t3 (d.1.map (valD x.1)) ≠ t3 tup)
      (fun c pre W => (c = .ret ∧ ∃ x ∈ pre, t3 (d.1.map (valD x.1)) = t3 tup) ∧ (W.heap[w.heap.size + 1 + 1]? = some (.cells #[.bool true] 4 (0, 0)) ∧ Below w.heap.size w W))
      (OwnFrom.and (own_below _ _ (Nat.le_refl _)) (own_pure _ _))
      (fun c => OwnFrom.and (own_pure _ _) (OwnFrom.and (own_block _ _ (fun _ => #[.bool true]) _) (own_below _ _ hB4.size)))
      ⟨Below.refl _ _, fun x hx => by simp at hx⟩
      (fun x a' W => ∃ Bx, (w4.heap.size ≤ Bx ∧ a' = { tmps := #[.agg #[.slice sa sn sc], .agg #[.slice a1 m' c1, .slice a2 n2 c2], .slice da dn dc, .slice ta m' tc, .pointer (some ⟨w.heap.size, 0, none⟩), .pointer (some ⟨w.heap.size + 1, 0, none⟩), undef, undef, .pointer (some ⟨w.heap.size + 1 + 1, 0, none⟩), .pointer (some ⟨w2.heap.size, 0, none⟩), .pointer (some ⟨Bx, 0, none⟩), .slice ta m' tc, .int .i64 m', .pointer (some ⟨w.heap.size + 1, 0, none⟩), .slice a1 m' c1, .int .i64 m', .bool false, .slice ta m' tc, .agg #[.int .i64 x0, .int .i64 x1, .int .i64 x2], .agg #[.slice sa sn sc], .agg #[.slice a1 m' c1, .slice a2 n2 c2], .slice da dn dc, .func (.func 107) #[] #[.pointer (some ⟨w2.heap.size + 1, 0, none⟩), .pointer (some ⟨w2.heap.size + 1 + 1, 0, none⟩), .pointer (some ⟨w2.heap.size + 1 + 1 + 1, 0, none⟩)], bV x.1, undef, undef, undef, undef, undef, undef], defers := [] }) ∧ W.heap[Bx]? = some (.cells (bA x.1) 89 (0, 0)))
      (fun x a' s A B row hs hg hr => by obtain ⟨Bx, h1, h2⟩ := hs; exact ⟨Bx, h1, own_block w4.heap.size Bx (fun (_ : Unit) => bA x.1) _ () A B row h2 hg hr⟩)
      ?assign ?body ?done ?stop
    case assign =>
      rintro l pre x W K ⟨hB, hne⟩ hK
      have hG := heap_alloc_new W (.cells #[.int .i64 0, .int .i64 0, .int .i64 0, .int .i64 0, .int .i64 0, .int .i64 0, .int .i64 0, .int .i64 0, .int .i64 0, .int .i64 0, .int .i64 0, .int .i64 0, .int .i64 0, .int .i64 0, .int .i64 0, .int .i64 0, .int .i64 0, .int .i64 0, .int .i64 0, .int .i64 0] 89)
      have hx := x.2
      have hsL : (#[.int .i64 0, .int .i64 0, .int .i64 0, .int .i64 0, .int .i64 0, .int .i64 0, .int .i64 0, .int .i64 0, .int .i64 0, .int .i64 0, .int .i64 0, .int .i64 0, .int .i64 0, .int .i64 0, .int .i64 0, .int .i64 0, .int .i64 0, .int .i64 0, .int .i64 0, .int .i64 0] : Array Value).size = 20 := rfl
      simp only [encB]
      gi_wp2_with ((with_reducible refine wpListIn_store_b rfl _ _ rfl _ _ hx _ hsL ?_ ?_ hG ?_); (focus rfl); (focus rfl))
      have hbn : Below W.heap.size W ((W.alloc (.cells #[.int .i64 0, .int .i64 0, .int .i64 0, .int .i64 0, .int .i64 0, .int .i64 0, .int .i64 0, .int .i64 0, .int .i64 0, .int .i64 0, .int .i64 0, .int .i64 0, .int .i64 0, .int .i64 0, .int .i64 0, .int .i64 0, .int .i64 0, .int .i64 0, .int .i64 0, .int .i64 0] 89)).setRow W.heap.size (bA x.1)) := OnlyAt.below (below_alloc W _) (OnlyAt.setRow _ _ _) (by simp)
      exact hK _ _ (keepsFrom_below hbn) (KpB.ofBelow hbn (Nat.le_trans hB4.size hB.size)) ⟨bnext hB hbn, hne⟩ ⟨W.heap.size, ⟨hB.size, rfl⟩, setRow_heap _ _ _ _ _ _ hG⟩
    case body =>
      rintro l pre x a' W hl ⟨r, hr⟩ ⟨hB, hne⟩ ⟨Bx, ⟨hBx, rfl⟩, gx⟩ hlt
      gi_wp2_with (fail)
      have heq := eql_tri
      have hcall := Lib.hid (fun dn os => HTUP.out (grow (redrawn W dn) os) x.1 (.slice a1 m' c1) x.2 (HQ1.out.below (bnext (bnext hB4 hB) (below_regrown W dn os))) (by rw [← hm]; exact (fine_head (bind_fine hlt).1).2))
      have k1c : ∀ (dr : Nat) (os : Array Obj), (grow (redrawn W dr) os).cell? ⟨w.heap.size + 1, 0, none⟩ = some (.slice a1 m' c1) := cell_regrown (cellk hB (cell_of_row _ _ 0 _ _ _ eq1 : w4.cell? ⟨w.heap.size + 1, 0, none⟩ = some (.slice a1 m' c1)))
      have d0 : ∀ (dr : Nat) (os : Array Obj), (grow (redrawn W dr) os).cell? ⟨w2.heap.size, 0, none⟩ = some (.int .i64 x0) := cell_regrown (cellk hB (cell_of_row _ _ 0 _ _ _ e0 : w4.cell? ⟨w2.heap.size, 0, none⟩ = some (.int .i64 x0)))
      have d1 : ∀ (dr : Nat) (os : Array Obj), (grow (redrawn W dr) os).cell? ⟨w2.heap.size, 1, none⟩ = some (.int .i64 x1) := cell_regrown (cellk hB (cell_of_row _ _ 1 _ _ _ e0 : w4.cell? ⟨w2.heap.size, 1, none⟩ = some (.int .i64 x1)))
      have d2 : ∀ (dr : Nat) (os : Array Obj), (grow (redrawn W dr) os).cell? ⟨w2.heap.size, 2, none⟩ = some (.int .i64 x2) := cell_regrown (cellk hB (cell_of_row _ _ 2 _ _ _ e0 : w4.cell? ⟨w2.heap.size, 2, none⟩ = some (.int .i64 x2)))
      have hreg := block_regrown gx
      have hx := x.2
      have gR := (hB.block _ hR2).trans eR
      obtain ⟨y0, hy0⟩ : ∃ y, y = (d.1.map (valD x.1)).getD 0 0 := ⟨_, rfl⟩
      obtain ⟨y1, hy1⟩ : ∃ y, y = (d.1.map (valD x.1)).getD 1 0 := ⟨_, rfl⟩
      obtain ⟨y2, hy2⟩ : ∃ y, y = (d.1.map (valD x.1)).getD 2 0 := ⟨_, rfl⟩
      have HX1 : Hid (t3 (d.1.map (valD x.1)) = (y0, y1, y2)) := by unfold Hid; rw [hy0, hy1, hy2]; rfl
      unfold tri at hcall
      rw [← hy0, ← hy1, ← hy2] at hcall
      clear hy0 hy1 hy2
      have HHB := Lib.hid hB
      have HNE := Lib.hid hne
      have GR := Lib.hid gR
      clear e0 e1 e2 e3 eq1 eR h24 hs4 hlt hr gx gR hne
      by_cases hmt : y0 = x0 ∧ y1 = x1 ∧ y2 = x2
      · have HM : Hid (t3 (d.1.map (valD x.1)) = t3 tup) := by unfold Hid; rw [HX1.out, HX.out, hmt.1, hmt.2.1, hmt.2.2]
        have hdm : decide (y0 = x0 ∧ y1 = x1 ∧ y2 = x2) = true := decide_eq_true hmt
        have heq2 : ∀ w, (binOp .eql 100 (.agg #[.int .i64 y0, .int .i64 y1, .int .i64 y2]) (.agg #[.int .i64 x0, .int .i64 x1, .int .i64 x2])).run Tryz.prog w = .ok (.bool true) w := fun w => by rw [heq, hdm]
        clear heq hmt hdm
        refine wpIn_region_quiet (by kernel_rfl) (by kernel_rfl) (by kernel_rfl) ?_
        repeat (any_goals (first | ((with_reducible refine quiet_load_b ?_ _ rfl _ _ hx ?_ hreg ?_); (focus rfl); (focus rfl)) | go_big_quiet_step ((go_at_call 76; exact Calls.regrown_of (hcall.out _ _))) | quiet_step ((go_at_call 76; exact Calls.regrown_of (hcall.out _ _)))))
        refine wpQuiet_nil ?_
        intro wq hw'
        have hbr : Below W.heap.size W wq := by obtain ⟨⟨dq, osq⟩, hw''⟩ := hw'; rw [hw'']; exact below_regrown W dq osq
        clear hw' hreg k1c d0 d1 d2 hcall
        have gq := (hbr.block _ (Array.getElem?_eq_some_iff.1 GR.out).1).trans GR.out
        have cq : wq.cell? ⟨w.heap.size + 1 + 1, 0, none⟩ = some (.bool false) := cell_of_row _ _ 0 _ _ _ gq
        have fq : wq.frozen? ⟨w.heap.size + 1 + 1, 0, none⟩ = false := froz_b gq
        have HGQ := Lib.hid gq
        have HBR := Lib.hid hbr
        clear gq hbr
        gi_wp2_with ((with_reducible refine wpIn_cond_true ?_ ?_); (focus rfl))
        exact ⟨(keepsFrom_below (B := w4.heap.size) HBR.out |>.trans ((KeepsOthers.setCell _ _ _).from _)), ⟨rfl, x, by simp, HM.out⟩, heap_setCell_at HGQ.out _, (bnext hB4 (bnext HHB.out HBR.out)).setCell (by simp; omega) _⟩
      · have HM : Hid (t3 (d.1.map (valD x.1)) ≠ t3 tup) := by unfold Hid; rw [HX1.out, HX.out]; simpa using hmt
        have hdm : decide (y0 = x0 ∧ y1 = x1 ∧ y2 = x2) = false := decide_eq_false hmt
        have heq2 : ∀ w, (binOp .eql 100 (.agg #[.int .i64 y0, .int .i64 y1, .int .i64 y2]) (.agg #[.int .i64 x0, .int .i64 x1, .int .i64 x2])).run Tryz.prog w = .ok (.bool false) w := fun w => by rw [heq, hdm]
        clear heq hmt hdm
        refine wpIn_region_quiet (by kernel_rfl) (by kernel_rfl) (by kernel_rfl) ?_
        repeat (any_goals (first | ((with_reducible refine quiet_load_b ?_ _ rfl _ _ hx ?_ hreg ?_); (focus rfl); (focus rfl)) | go_big_quiet_step ((go_at_call 76; exact Calls.regrown_of (hcall.out _ _))) | quiet_step ((go_at_call 76; exact Calls.regrown_of (hcall.out _ _)))))
        refine wpQuiet_nil ?_
        intro wq hw'
        have hbr : Below W.heap.size W wq := by obtain ⟨⟨dq, osq⟩, hw''⟩ := hw'; rw [hw'']; exact below_regrown W dq osq
        clear hw' hreg k1c d0 d1 d2 hcall
        have gq := (hbr.block _ (Array.getElem?_eq_some_iff.1 GR.out).1).trans GR.out
        have cq : wq.cell? ⟨w.heap.size + 1 + 1, 0, none⟩ = some (.bool false) := cell_of_row _ _ 0 _ _ _ gq
        have fq : wq.frozen? ⟨w.heap.size + 1 + 1, 0, none⟩ = false := froz_b gq
        have HGQ := Lib.hid gq
        have HBR := Lib.hid hbr
        clear gq hbr
        gi_wp2_with ((with_reducible refine wpIn_cond_false ?_ ?_); (focus rfl))
        exact ⟨keepsFrom_below (B := w4.heap.size) HBR.out, KpB.ofBelow HBR.out (Nat.le_trans hB4.size HHB.out.size), bnext HHB.out HBR.out, fun z hz => by
          rcases List.mem_append.1 hz with h | h
          · exact HNE.out z h
          · rw [List.mem_singleton.1 h]; exact HM.out⟩
    case done =>
      rintro D xs W hD hS ⟨hB, hne⟩ hK
      have gR := (hB.block _ hR2).trans eR
      have cq : W.cell? ⟨w.heap.size + 1 + 1, 0, none⟩ = some (.bool false) := cell_of_row _ _ 0 _ _ _ gR
      have fq : W.frozen? ⟨w.heap.size + 1 + 1, 0, none⟩ = false := froz_b gR
      have HB5 := Lib.hid (bnext hB4 hB)
      have HR : Hid (isAnsI s d db tup = false) := by
        unfold Hid
        simp only [isAnsI, ← hS, Bool.and_eq_false_iff]
        right
        rw [List.any_eq_false]
        intro b hb
        obtain ⟨x, hx, rfl⟩ := List.mem_map.1 hb
        simpa using hne x hx
      have hgk := heap_setCell_at (i := 0) gR (.bool false)
      clear hB
      gi_wp2_with (fail)
      refine ⟨by simp, .inl ⟨_, _, rfl, run_takeDeferred (((KeepsOthers.setCell _ _ _).from w4.heap.size).same D _ hD hK rfl), ?_⟩⟩
      refine ⟨_, results_bool Tryz.results48 _ _ (w.heap.size + 1 + 1) (.bool false) rfl (cell_of_row _ _ 0 _ _ _ (put_block _ D _ hgk (by omega))), by rw [HR.out], ?_⟩
      exact (HB5.out.setCell (by simp; omega) _).trans (belowK_b (w := w4) hB4.size _ D _ _ hD (((KeepsOthers.setCell _ _ _).from w4.heap.size).same D _ hD hK rfl) rfl rfl)
    case stop =>
      rintro D c pre W hD hS ⟨⟨rfl, hex⟩, hRt, hBw⟩ hK
      have HR : Hid (isAnsI s d db tup = true) := by
        unfold Hid
        obtain ⟨x, hx, he⟩ := hex
        rw [isAnsI, Bool.and_eq_true]
        exact ⟨decide_eq_true (hm2.trans hm.symm), List.any_eq_true.2 ⟨x.1, hS.subset (List.mem_map.2 ⟨x, hx, rfl⟩), decide_eq_true he⟩⟩
      gi_wp2_with (fail)
      refine ⟨by simp, .inl ⟨_, _, rfl, run_takeDeferred hK, ?_⟩⟩
      refine ⟨_, results_bool Tryz.results48 _ _ (w.heap.size + 1 + 1) (.bool true) rfl (cell_of_row _ _ 0 _ _ _ (put_block _ D _ hRt (by omega))), by rw [HR.out], ?_⟩
      exact hBw.trans (belowK_b (w := w4) hB4.size _ D _ _ hD hK rfl rfl)
  · have HR : Hid (isAnsI s d db tup = false) := by unfold Hid isAnsI; rw [decide_eq_false hln]; rfl
    have q : ((tup.length : Int) != d.1.length) = true := by simp; omega
    generalize d.1.length = m at *
    generalize tup.length = m' at *
    have HB := Lib.hid (fun o o' o'' => ((below_alloc w o).trans ((below_alloc _ o').mono (by simp))).trans ((below_alloc _ o'').mono (by simp; omega)) : ∀ o o' o'', Below w.heap.size w (((w.alloc o).alloc o').alloc o''))
    go_enter Tryz.func48, Tryz.ntmps48
    go_wp2_with fail
    have hcl : ((((w.alloc (.cells #[.slice sa sn sc] 34)).alloc (.cells #[.slice a1 m c1, .slice a2 n2 c2] 38)).alloc (.cells #[.bool false] 4))).cell? ⟨w.heap.size + 1 + 1, 0, none⟩ = some (.bool false) :=
      cell_of_row _ _ 0 #[.bool false] 4 (0, 0) (by have := heap_alloc_new ((w.alloc (.cells #[.slice sa sn sc] 34)).alloc (.cells #[.slice a1 m c1, .slice a2 n2 c2] 38)) (.cells #[.bool false] 4); simpa using this)
    exact bodyPost_ret (results_bool Tryz.results48 _ _ (w.heap.size + 1 + 1) (.bool false) rfl hcl) rfl ⟨by rw [HR.out], HB.out _ _ _⟩
end Go.Proofs.YtfojllkkbdpfkaaGreat
