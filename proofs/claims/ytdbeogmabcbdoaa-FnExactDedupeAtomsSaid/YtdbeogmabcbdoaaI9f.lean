/- Contract of chapter 9's impl: DedupeAtoms. -/
import Derived.Test.YtdbeogmabcbdoaaI9e
import Derived.Deep.RegionHeld3
namespace Go.Proofs.Ytdbeogmabcbdoaa
open Go Go.Sort Go.RowKit
open Go.ChangeMaps (setBlock heap_setBlock_same heap_setBlock_other)
set_option linter.unusedVariables false

set_option maxRecDepth 100000 in
set_option maxHeartbeats 16000000 in
theorem iDedupe_any (w : World) (v : Value) (d : QueryD) (h : RdQuery w v d) (hz : sizeQuery d ≤ 1048576) :
    Calls Try.prog 26 #[v] w (GaveO (fun w' v' bs => ROQuery w' v' (ddQ d) bs) w) := by
  have hs2 : sizeAtomS d.2 ≤ 1048576 := by unfold sizeQuery at hz; omega
  obtain ⟨a0, n0, c0, a, n, c, rfl, hi, ha⟩ := h
  obtain ⟨hl, hn, hm, hcell⟩ := ha.at
  unfold maxLen at hm
  have HNQ := Lib.hid (fun W x (hb : Below w.heap.size w W) (hx : RdAtomS W x (ddA d.2)) => iNewQuery_any W (.slice a0 n0 c0) x d.1 (ddA d.2) (hi.below hb) hx (by have := ddA_size d.2; unfold sizeQuery at hz; omega))
  have HC := Lib.hid hcell
  have HL := Lib.hid hl
  have HSA := Lib.hid hs2
  have hln : n ≤ 1048576 := by unfold sizeAtomS at hs2; omega
  have hb0 : ∀ a b c, Below w.heap.size w (((w.alloc a).alloc b).alloc c) := fun a b c => (((Below.refl _ _).alloc (Nat.le_refl _) _).alloc (by simp) _).alloc (by simp; omega) _
  have HB0 := Lib.hid hb0
  have hmm := @run_makeMap Try.prog
  clear hi ha hcell hl hb0 hs2 hz
  go_enter Try.func26, Try.ntmps26
  go_wp2_with fail
  clear hmm
  obtain ⟨W, hW⟩ : ∃ W, W = ((w.alloc (.cells #[.slice a0 n0 c0, .slice a n c] 32)).alloc (.cells #[.slice none 0 0, .slice none 0 0] 32)).alloc (.map #[] 0) := ⟨_, rfl⟩
  have HBW : Hid (Below w.heap.size w W) := by rw [hW]; exact HB0.out _ _ _
  have Q1 : Hid (W.cell? ⟨w.heap.size, 0, none⟩ = some (.slice a0 n0 c0)) := by rw [hW]; exact box1 w _ _ _ _ 0 _ rfl
  have Q2 : Hid (W.cell? ⟨w.heap.size, 1, none⟩ = some (.slice a n c)) := by rw [hW]; exact box1 w _ _ _ _ 1 _ rfl
  have K0 : Hid (W.cell? ⟨w.heap.size + 1, 0, none⟩ = some (.slice none 0 0)) := by rw [hW]; exact box2 w _ _ _ _ 0 _ rfl
  have K1 : Hid (W.cell? ⟨w.heap.size + 1, 1, none⟩ = some (.slice none 0 0)) := by rw [hW]; exact box2 w _ _ _ _ 1 _ rfl
  have F0 : Hid (W.frozen? ⟨w.heap.size + 1, 0, none⟩ = false) := by rw [hW]; exact frz2 w _ _ _ _ 0 _ rfl
  have F1 : Hid (W.frozen? ⟨w.heap.size + 1, 1, none⟩ = false) := by rw [hW]; exact frz2 w _ _ _ _ 1 _ rfl
  obtain ⟨M, hM⟩ : ∃ M, M = w.heap.size + 1 + 1 := ⟨_, rfl⟩
  have HM0 : Hid (W.heap[M]? = some (.map #[] 0)) := by
    rw [hW, hM]
    have := heap_alloc_new ((w.alloc (.cells #[.slice a0 n0 c0, .slice a n c] 32)).alloc (.cells #[.slice none 0 0, .slice none 0 0] 32)) (.map #[] 0)
    have e2 : ((w.alloc (.cells #[.slice a0 n0 c0, .slice a n c] 32)).alloc (.cells #[.slice none 0 0, .slice none 0 0] 32)).heap.size = w.heap.size + 1 + 1 := by simp
    rw [e2] at this
    exact this
  have HSZ : Hid (W.heap.size = M + 1) := by rw [hW, hM]; exact Lib.hid (by simp)
  have HMV := Lib.hid hM
  rw [← hW, ← hM]
  clear hW hM
  have hmlt : M < W.heap.size := by have := HSZ.out; omega
  have HMLT := Lib.hid hmlt
  clear hmlt
  go_loopw [4, 12] (fun kv iv wr => ∃ i : Nat, i ≤ n ∧ iv = .int .i64 i ∧ ∃ (ka : Option Addr) (kn kc : Nat) (es : Array MapEntry) (clock : Nat), kv = .slice ka kn kc ∧ Hid (wr.heap[M]? = some (.map es clock)) ∧ Hid (Keyed9 Try.prog 72 es clock) ∧ Hid (Bks W.heap.size w wr (ddA (d.2.take i)) es (.slice ka kn kc)) ∧ Hid (RowA W.heap.size w wr (.slice ka kn kc) (ddA (d.2.take i))) ∧ Hid (OnlyAt [M] W wr)) (fun _ iv _ => n - (intOf iv).toNat)
  case atStart => exact ⟨0, by omega, rfl, none, 0, 0, #[], 0, rfl, HM0, Lib.hid (Keyed9.empty _ _ _), Lib.hid (Bks.nil _ _ _ _), Lib.hid (RowA.nil (Nat.le_refl _)), Lib.hid (OnlyAt.refl _ _)⟩
  case round =>
    obtain ⟨wO, hwO⟩ : ∃ x, x = wr := ⟨_, rfl⟩
    subst hwO
    obtain ⟨i, hi, rfl, ka, kn, kc, es, clock, rfl, HM, HK, HBK, HKR, HON⟩ := hrel
    have HBO : Hid (Below w.heap.size w wO) := OnlyAt.below HBW.out HON.out (fun x hx => by have := HMV.out; simp at hx; omega)
    have hkn : kn = (ddA (d.2.take i)).length := by
      obtain ⟨_, _, e⟩ := HKR.out.form
      cases e; rfl
    subst hkn
    by_cases hlt : i < n
    · obtain ⟨b, off, rfl, hbw, hc⟩ := HC.out (by omega)
      obtain ⟨e, hd⟩ : ∃ e, d.2[i]? = some e := ⟨d.2[i]'(by rw [HL.out]; exact hlt), List.getElem?_eq_getElem (by rw [HL.out]; exact hlt)⟩
      obtain ⟨ea, em, ec, c0', c1', hdi, hints⟩ := atomAt (n := n) hc i e hd
      have r0 := cellk HBO.out c0'
      have r1 := cellk HBO.out c1'
      have hi0 : (0 : Int) ≤ i := by omega
      have hi1 : (i : Int) < n := by omega
      have hez : e.2.length ≤ 1048576 := by
        have h5 := sumArgs_take hd
        have h6 := sumArgs_le d.2 (i + 1)
        have h7 := HSA.out
        unfold sizeAtomS at h7
        omega
      have HTK := Lib.hid (ddA_take hd)
      have hlen2 : (ddA (d.2.take i)).length ≤ i := by have := ddA_len (d.2.take i); simp at this; omega
      have HDI := Lib.hid hdi
      have HINT := Lib.hid hints
      have HEZ := Lib.hid hez
      obtain ⟨kl, hkl⟩ := pk9_key hdi hints.1 hez
      have HKL := Lib.hid hkl
      have hmO : M < wO.heap.size := (Array.getElem?_eq_some_iff.1 HM.out).1
      have hLO : W.heap.size ≤ wO.heap.size := HON.out.size
      generalize hLL : ddA (d.2.take i) = L at *
      obtain ⟨v0, st, es1, clock1, hlk, hlk1, hent, hput⟩ := incr9 (b := M) packLaw9 Try.underlying69 (z := .slice none 0 0) (fun _ => by kernel_rfl) HK.out HKL.out
      obtain ⟨es', _, _, hdj⟩ := hput v0
      obtain ⟨l0, hrow0, hl0, hmem, hdis, hnext⟩ := Bks.find HBK.out hLO (fun b hb => (HKR.out.lo b hb).2) (by
        rcases hdj with ⟨j, h1, _⟩ | ⟨h1, h2, _⟩
        · exact .inl ⟨j, h1⟩
        · exact .inr ⟨h1, h2⟩)
      obtain ⟨va, vc, rfl⟩ := hrow0.form
      have hpk : pk9 e = .agg #[.int .i64 e.1, .int .i64 (e.2.length : Int), .int .i64 (e.2.getD 0 0), .int .i64 (e.2.getD 1 0), .int .i64 (e.2.getD 2 0)] := rfl
      rw [hpk] at hlk hent hput
      have HPKE := Lib.hid hpk
      have HPA : Hid (∀ W1, Below w.heap.size w W1 → Calls Try.prog 48 #[.agg #[.int .i64 e.1, .slice ea em ec]] W1 fun e1 w' => e1 = .returned (.agg #[.int .i64 e.1, .int .i64 (e.2.length : Int), .int .i64 (e.2.getD 0 0), .int .i64 (e.2.getD 1 0), .int .i64 (e.2.getD 2 0)]) ∧ Below W1.heap.size W1 w') := fun W1 hb => iPack_any W1 e.1 (.slice ea em ec) e.2 (HINT.out.below hb)
      have HHAS := Lib.hid (fun W1 (hb : Below wO.heap.size wO W1) => iHas_any W1 (.slice va l0.length vc) l0 ea em ec e ((hrow0.below hb).rd (bnext HBO.out hb)) (HINT.out.below (bnext HBO.out hb)) hez (by omega))
      have HROW0 := Lib.hid hrow0
      have HDIS := Lib.hid hdis
      have HNEXT := Lib.hid hnext
      have HLK := Lib.hid hlk
      have HENT := Lib.hid hent
      have HPUT := Lib.hid hput
      obtain ⟨q, hq⟩ : ∃ q, decide (e ∈ l0) = q := ⟨_, rfl⟩
      rw [hq] at HHAS
      have HMEM : Hid (decide (e ∈ L) = q) := by
        rw [← hq]
        by_cases h : e ∈ l0
        · rw [decide_eq_true h, decide_eq_true (hmem.1 h)]; exact Lib.hid rfl
        · rw [decide_eq_false h, decide_eq_false (fun h2 => h (hmem.2 h2))]; exact Lib.hid rfl
      have hl0z : l0.length ≤ 1048576 := by omega
      have hLz : L.length ≤ 1048576 := by omega
      obtain ⟨ln, hln2⟩ : ∃ ln : Int, ln = (e.2.length : Int) := ⟨_, rfl⟩
      rw [← hln2] at HPA HLK HENT HPUT HPKE
      generalize hx0 : e.2.getD 0 0 = x0 at *
      generalize hx1 : e.2.getD 1 0 = x1 at *
      generalize hx2 : e.2.getD 2 0 = x2 at *
      generalize hr : e.1 = r at *
      have HR := Lib.hid hr
      clear hc hbw hd c0' c1' hdi hints hez hkl hLL hlk hlk1 hent hput hdj hrow0 hl0 hmem hdis hnext hpk hq hln2 hx0 hx1 hx2 hr
      have HAW := Lib.hid (below_alloc wO (.cells #[.int .i64 r, .slice ea em ec] 53))
      have a0' : (wO.alloc (.cells #[.int .i64 r, .slice ea em ec] 53)).cell? ⟨wO.heap.size, 0, none⟩ = some (.int .i64 r) := newBox wO _ _ 0 _ rfl
      have a1' : (wO.alloc (.cells #[.int .i64 r, .slice ea em ec] 53)).cell? ⟨wO.heap.size, 1, none⟩ = some (.slice ea em ec) := newBox wO _ _ 1 _ rfl
      go_wp2_with fail
      refine (HPA.out _ (bnext HBO.out HAW.out)).mono ?_
      rintro e2 w2 ⟨rfl, hb2⟩
      have hal := below_alloc w2 (.cells #[.int .i64 r, .int .i64 ln, .int .i64 x0, .int .i64 x1, .int .i64 x2] 72)
      have HB3 := Lib.hid (bnext (bnext HAW.out hb2) hal)
      replace a0' := cellk (bnext hb2 hal) a0'
      replace a1' := cellk (bnext hb2 hal) a1'
      have p0 := newBox w2 #[.int .i64 r, .int .i64 ln, .int .i64 x0, .int .i64 x1, .int .i64 x2] 72 0 _ rfl
      have p1 := newBox w2 #[.int .i64 r, .int .i64 ln, .int .i64 x0, .int .i64 x1, .int .i64 x2] 72 1 _ rfl
      have p2 := newBox w2 #[.int .i64 r, .int .i64 ln, .int .i64 x0, .int .i64 x1, .int .i64 x2] 72 2 _ rfl
      have p3 := newBox w2 #[.int .i64 r, .int .i64 ln, .int .i64 x0, .int .i64 x1, .int .i64 x2] 72 3 _ rfl
      have p4 := newBox w2 #[.int .i64 r, .int .i64 ln, .int .i64 x0, .int .i64 x1, .int .i64 x2] 72 4 _ rfl
      clear hb2 hal r0 r1
      go_upto_region 7 with fail
      obtain ⟨w3, hw3⟩ : ∃ x, x = w2.alloc (.cells #[.int .i64 r, .int .i64 ln, .int .i64 x0, .int .i64 x1, .int .i64 x2] 72) := ⟨_, rfl⟩
      rw [← hw3] at p0 p1 p2 p3 p4 a0' a1' HB3 ⊢
      clear hw3
      have HM3 : Hid (w3.heap[M]? = some (.map es clock)) := zbk9 HB3.out HM.out
      have hne7 : w2.heap.size ≠ M ∧ wO.heap.size ≠ M := ⟨by have := zb9_lt p0; intro h; subst h; have := HM3.out; unfold World.cell? at p0; rw [this] at p0; simp at p0, by omega⟩
      have hneM := hne7.2
      clear hne7
      go_region_held3 (fun w' => w'.cell? ⟨w2.heap.size, 0, none⟩ = some (.int .i64 r) ∧ w'.cell? ⟨w2.heap.size, 1, none⟩ = some (.int .i64 ln) ∧ w'.cell? ⟨w2.heap.size, 2, none⟩ = some (.int .i64 x0) ∧ w'.cell? ⟨w2.heap.size, 3, none⟩ = some (.int .i64 x1) ∧ w'.cell? ⟨w2.heap.size, 4, none⟩ = some (.int .i64 x2) ∧ w'.cell? ⟨wO.heap.size, 0, none⟩ = some (.int .i64 r) ∧ w'.cell? ⟨wO.heap.size, 1, none⟩ = some (.slice ea em ec) ∧ (Instr.lookup 69 (.map (some M)) (.agg #[.int .i64 r, .int .i64 ln, .int .i64 x0, .int .i64 x1, .int .i64 x2]) false).run Try.prog w' = .ok (.slice va l0.length vc) w' ∧ Below w3.heap.size w3 w')
        (first | assumption | exact ⟨by simpa using p0, by simpa using p1, by simpa using p2, by simpa using p3, by simpa using p4, by simpa using a0', by simpa using a1', HLK.out _ HM3.out, (Below.refl _ _).drew⟩ | (go_split_ands; exact ⟨cellk (by assumption) (by assumption), cellk (by assumption) (by assumption), cellk (by assumption) (by assumption), cellk (by assumption) (by assumption), cellk (by assumption) (by assumption), cellk (by assumption) (by assumption), cellk (by assumption) (by assumption), HLK.out _ (zbk9 (bnext (by assumption) (by assumption)) HM3.out), bnext (by assumption) (by assumption)⟩))
        (first
          | (go_at_call 49; (try go_split_ands); refine (HHAS.out _ (bnext HB3.out (by assumption))).mono ?_; rintro e3 w4 ⟨rfl, hb4⟩))
      all_goals (try go_split_ands)
      have hb34 : Below w3.heap.size w3 w4 := by assumption
      have HM4 : Hid (w4.heap[M]? = some (.map es clock)) := zbk9 hb34 HM3.out
      replace a0' := cellk hb34 a0'
      replace a1' := cellk hb34 a1'
      replace p0 := cellk hb34 p0
      replace p1 := cellk hb34 p1
      replace p2 := cellk hb34 p2
      replace p3 := cellk hb34 p3
      replace p4 := cellk hb34 p4
      have HB4 := Lib.hid (bnext HB3.out hb34)
      clear hb34
      clear HLK HHAS HM3 HAW HPA
      cases q with
      | true =>
        have HRT : Hid (ddA (d.2.take (i + 1)) = L) := by rw [HTK.out, if_pos (of_decide_eq_true HMEM.out)]; exact Lib.hid rfl
        go_wp2_with fail
        exact ⟨⟨i + 1, by omega, by simp, _, _, _, es, clock, rfl, HM4, HK, by rw [HRT.out]; exact Lib.hid (HBK.out.below HB4.out), by rw [HRT.out]; exact Lib.hid (HKR.out.below HB4.out), Lib.hid (HON.out.above (OnlyAt.ofBelow [] HB4.out) (by simp))⟩, by simp [intOf]; omega⟩
      | false =>
        have HRT : Hid (ddA (d.2.take (i + 1)) = L ++ [e]) := by rw [HTK.out, if_neg (of_decide_eq_false HMEM.out)]; exact Lib.hid rfl
        have HA4 := Lib.hid (below_alloc w4 (.cells #[.int .i64 r, .slice ea em ec] 53))
        obtain ⟨w5, hw5⟩ : ∃ x, x = w4.alloc (.cells #[.int .i64 r, .slice ea em ec] 53) := ⟨_, rfl⟩
        have HM5 : Hid (w5.heap[M]? = some (.map es clock)) := by rw [hw5]; exact zbk9 HA4.out HM4.out
        have HEL5 : Hid (w5.heap[w4.heap.size]? = some (.cells #[.int .i64 r, .slice ea em ec] 53)) := by rw [hw5]; exact heap_alloc_new w4 _
        have HB45 : Hid (Below w4.heap.size w4 w5) := by rw [hw5]; exact HA4
        have hentE := HENT.out _ HM5.out
        obtain ⟨w6, hw6⟩ : ∃ x, x = setBlock w5 M (.map es1 clock1) := ⟨_, rfl⟩
        rw [← hw6] at hentE
        have HK56 : Hid (OnlyAt [M] w5 w6) := by rw [hw6]; exact setBlock_only9 _ _ _
        have HM6 : Hid (w6.heap[M]? = some (.map es1 clock1)) := by rw [hw6]; exact setBlock_heap9 HM5.out
        have hM4lt : M < w4.heap.size := (Array.getElem?_eq_some_iff.1 HM4.out).1
        have h45 := HB45.out.size
        have h5lt : w4.heap.size < w5.heap.size := (Array.getElem?_eq_some_iff.1 HEL5.out).1
        have HEL6 : Hid (w6.heap[w4.heap.size]? = some (.cells #[.int .i64 r, .slice ea em ec] 53 (0, 0))) := (HK56.out.block _ h5lt (by simp; omega)).trans HEL5.out
        have s0 := HK56.out.cell (by simpa using hneM) (cellk HB45.out a0')
        have s1 := HK56.out.cell (by simpa using hneM) (cellk HB45.out a1')
        have HB05 := Lib.hid (bnext HB4.out HB45.out)
        have hmlt := HMLT.out
        have hnotM : ∀ (x : Value) (lx : List AtomD), RowA W.heap.size w wO x lx → ∀ b ∈ blk x, b ∉ [M] := fun x lx hx b hb hm => by have := (hx.lo b hb).1; simp at hm; omega
        have HR6 := Lib.hid ((HROW0.out.below HB05.out).only HK56.out (hnotM _ _ HROW0.out))
        obtain ⟨WB, csB, hWB, hbB, hcB⟩ := HR6.out.built
        have HBB := Lib.hid hbB
        have HCB := Lib.hid hcB
        have HWB := Lib.hid hWB
        rw [hw5] at hentE
        clear hw5 hw6 hbB hcB hWB hnotM
        go_wp2_with (at_builtin; refine wpList_app1E rfl (.tmp 26) (.tmp 28) 57 rfl 53 (.agg #[.int .i64 0, .slice none 0 0]) 2 32 Try.underlying57 info_Atom (by decide) (by decide) (by rfl) (.slice va l0.length vc) l0.length csB rfl HBB.out w4.heap.size [.int .i64 r, .slice ea em ec] rfl (by simp [Value.oneCell']) rfl HEL6.out (by omega) ?_)
        intro g' cap' w7 hown7 ko7 hbl7
        have hrlo : ∀ b ∈ blk (.slice va l0.length vc), W.heap.size ≤ b ∧ b < wO.heap.size := HROW0.out.lo
        have hklo : ∀ b ∈ blk (.slice ka L.length kc), W.heap.size ≤ b ∧ b < wO.heap.size := HKR.out.lo
        have h6lt : M < w6.heap.size := (Array.getElem?_eq_some_iff.1 HM6.out).1
        have h06 : wO.heap.size ≤ w6.heap.size := Nat.le_trans HB05.out.size HK56.out.size
        have HM7 : Hid (w7.heap[M]? = some (.map es1 clock1)) := (ko7.block M h6lt (fun h => by have := (hrlo _ h).1; omega)).trans HM6.out
        obtain ⟨es2, hk2, hst, hdisj⟩ := HPUT.out (.slice (some ⟨g', 0, none⟩) (l0.length + 1) cap')
        rw [← HPKE.out] at hdisj
        have hstE : (Instr.entryStore 69 (.map (some M)) (.int .i64 (st : Int)) (.slice (some ⟨g', 0, none⟩) (l0.length + 1) cap')).run Try.prog w7 = .ok () (setBlock w7 M (.map es2 clock1)) := hst _ HM7.out
        obtain ⟨w8, hw8⟩ : ∃ x, x = setBlock w7 M (.map es2 clock1) := ⟨_, rfl⟩
        rw [← hw8] at hstE
        have HK78 : Hid (OnlyAt [M] w7 w8) := by rw [hw8]; exact setBlock_only9 _ _ _
        have HM8 : Hid (w8.heap[M]? = some (.map es2 clock1)) := by rw [hw8]; exact setBlock_heap9 HM7.out
        have ko08 : OnlyAt (M :: blk (.slice va l0.length vc)) wO w8 := (((OnlyAt.ofBelow _ HB05.out).same (HK56.out.sub9 (by simp))).same (ko7.sub9 (fun b hb => List.mem_cons_of_mem _ hb))).same (HK78.out.sub9 (by simp))
        have hbv : ∀ b ∈ blk (.slice (some ⟨g', 0, none⟩) (l0.length + 1) cap'), b ∈ blk (.slice va l0.length vc) ∨ wO.heap.size ≤ b := fun b hb => (hbl7 b hb).imp id (fun h => by omega)
        have hlenB : (l0 ++ [e]).length = l0.length + 1 := by simp
        have hrowV : RowA W.heap.size w w7 (.slice (some ⟨g', 0, none⟩) (l0.length + 1) cap') (l0 ++ [e]) := by
          refine RowA.ofBuilt HWB.out (cs := csB ++ [.int .i64 r, .slice ea em ec]) (by rw [hlenB]; exact hown7) ?_
          have := Cs2.snoc HCB.out HBB.out.len (e := e) (a := ea) (m := em) (c := ec) (by rw [HR.out]; exact HDI.out) HINT.out
          rwa [HR.out] at this
        have hval : RowA W.heap.size w w8 (.slice (some ⟨g', 0, none⟩) (l0.length + 1) cap') (l0 ++ [e]) := hrowV.only HK78.out (fun b hb hm => by have := (hrowV.lo b hb).1; simp at hm; omega)
        have HBK8 := Lib.hid (HNEXT.out w8 _ es2 M ko08 hmlt hval hbv hdisj)
        have HKR8 := Lib.hid (HKR.out.only ko08 (fun b hb hm => by
          rcases List.mem_cons.1 hm with h | h
          · have := (hklo b hb).1; omega
          · exact HDIS.out b h hb))
        have hsO : wO.heap.size ∉ blk (.slice va l0.length vc) := fun h => by have := (hrlo _ h).2; omega
        have t0 := HK78.out.cell (by simpa using hneM) (ko7.cell hsO s0)
        have t1 := HK78.out.cell (by simpa using hneM) (ko7.cell hsO s1)
        have hal8 := below_alloc w8 (.cells #[.int .i64 r, .slice ea em ec] 53)
        obtain ⟨WK, csK, hWK, hbK, hcK⟩ := (HKR8.out.below hal8).built
        have HBK9 := Lib.hid hbK
        have HCK9 := Lib.hid hcK
        have HWK9 := Lib.hid hWK
        have HEL9 : Hid ((w8.alloc (.cells #[.int .i64 r, .slice ea em ec] 53)).heap[w8.heap.size]? = some (.cells #[.int .i64 r, .slice ea em ec] 53 (0, 0))) := heap_alloc_new w8 _
        have HAL8 := Lib.hid hal8
        have HON8 := Lib.hid (HON.out.above9 ko08 (fun b hb => by
          rcases List.mem_cons.1 hb with h | h
          · exact .inl h
          · exact .inr (hrlo b h).1))
        have HK2 := Lib.hid hk2
        have HKLO := Lib.hid hklo
        clear hw8 ko08 hbv hrowV hval hsO hal8 hbK hcK hWK hdisj hst hk2 hown7 ko7 hbl7 s0 s1 hrlo hklo
        go_wp2_with (at_builtin; refine wpList_app1E rfl (.tmp 32) (.tmp 34) 30 rfl 53 (.agg #[.int .i64 0, .slice none 0 0]) 2 32 Try.underlying30 info_Atom (by decide) (by decide) (by rfl) (.slice ka L.length kc) L.length csK rfl HBK9.out w8.heap.size [.int .i64 r, .slice ea em ec] rfl (by simp [Value.oneCell']) rfl HEL9.out (by omega) ?_)
        intro g2 cap2 w10 hown10 ko10 hbl10
        have hlenK : (L ++ [e]).length = L.length + 1 := by simp
        have HKR10 : Hid (RowA W.heap.size w w10 (.slice (some ⟨g2, 0, none⟩) (L.length + 1) cap2) (L ++ [e])) := by
          refine RowA.ofBuilt HWK9.out (cs := csK ++ [.int .i64 r, .slice ea em ec]) (by rw [hlenK]; exact hown10) ?_
          have := Cs2.snoc HCK9.out HBK9.out.len (e := e) (a := ea) (m := em) (c := ec) (by rw [HR.out]; exact HDI.out) HINT.out
          rwa [HR.out] at this
        have HBK10 := Lib.hid ((HBK8.out.below HAL8.out).kept ko10 (fun b hb => (hbl10 b hb).imp id (fun h => by simp; omega)))
        have hMk : M ∉ blk (.slice ka L.length kc) := fun h => by have := (HKLO.out _ h).1; omega
        have HM10 : Hid (w10.heap[M]? = some (.map es2 clock1)) := (ko10.block M (Nat.lt_of_lt_of_le (Array.getElem?_eq_some_iff.1 HM8.out).1 HAL8.out.size) hMk).trans (zbk9 HAL8.out HM8.out)
        have HON10 := Lib.hid ((HON8.out.above9 (OnlyAt.ofBelow [] HAL8.out) (by simp)).above9 ko10 (fun b hb => .inr (HKLO.out b hb).1))
        clear hown10 ko10 hbl10 hMk
        go_wp2_with fail
        exact ⟨⟨i + 1, by omega, by simp, _, _, _, es2, clock1, rfl, HM10, HK2, by rw [HRT.out]; exact HBK10, by rw [HRT.out]; exact HKR10, HON10⟩, by simp [intOf]; omega⟩
    · obtain rfl : i = n := by omega
      have hT : d.2.take i = d.2 := List.take_of_length_le (by rw [HL.out]; exact Nat.le_refl _)
      rw [hT] at HKR
      have hnM : ∀ x, x ≠ M → x ∉ [M] := fun x h hx => h (by simpa using hx)
      have hMV := HMV.out
      have q1 := HON.out.cell (hnM _ (by omega)) Q1.out
      have k0 := HON.out.cell (hnM _ (by omega)) K0.out
      have k1 := HON.out.cell (hnM _ (by omega)) K1.out
      have f0 := HON.out.frozen (by have := HSZ.out; omega) (hnM _ (by omega)) F0.out
      have f1 := HON.out.frozen (by have := HSZ.out; omega) (hnM _ (by omega)) F1.out
      have HCL := Lib.hid (HNQ.out wO _ HBO.out (HKR.out.rd HBO.out))
      have HOS := HON.out.size
      rw [hT]
      go_wp2_with fail
      refine HCL.out.mono ?_
      rintro e2 w2 ⟨r, bs, rfl, hr, hfr, hbb⟩
      replace f0 := frok hbb k0 f0
      replace f1 := frok hbb k1 f1
      replace k0 := cellk hbb k0
      replace k1 := cellk hbb k1
      have HR1 := Lib.hid hr
      have HF1 := Lib.hid hfr
      have HB1 := Lib.hid (bnext HBO.out hbb)
      have hszO := HSZ.out
      obtain ⟨ra, rn, rc, ra', rn', rc', rfl, _⟩ := hr
      clear hbb hfr q1
      go_wp2_with fail
      have hk : OnlyAt [w.heap.size + 1] w2 ((w2.setCell ⟨w.heap.size + 1, 0, none⟩ (.slice ra rn rc)).setCell ⟨w.heap.size + 1, 1, none⟩ (.slice ra' rn' rc')) := (OnlyAt.setCell w2 _ _ _).same (OnlyAt.setCell _ _ _ _)
      exact bodyPost_ret (v := .agg #[.slice ra rn rc, .slice ra' rn' rc']) (by simp [results, Try.results26, go_sem, k0, k1]) rfl ⟨_, bs, rfl, HR1.out.onlyAt hk (fun b hb hm => by have := (HF1.out.2 b hb).1; simp at hm; omega), ⟨HF1.out.1, fun b hb => ⟨by have := (HF1.out.2 b hb).1; omega, Nat.lt_of_lt_of_le (HF1.out.2 b hb).2 hk.size⟩⟩, OnlyAt.below HB1.out hk (fun x hx => by simp at hx; omega)⟩
end Go.Proofs.Ytdbeogmabcbdoaa
