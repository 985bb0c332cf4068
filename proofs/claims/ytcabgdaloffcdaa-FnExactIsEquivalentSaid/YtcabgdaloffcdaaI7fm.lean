/- Contracts of chapter 7's program: newMappingSearch, searchMapping, FindMapping. -/
import Derived.Test.YtcabgdaloffcdaaI7rep
import Derived.Test.YtcabgdaloffcdaaS7fm
import Derived.Test.YtcabgdaloffcdaaIquery
namespace Go.Proofs.Ytcabgdaloffcdaa
open Go Go.Sort Go.RowKit
set_option linter.unusedVariables false

theorem built_rebase {W w1 w : World} {v : Value} {l : List Int} (h : Built .i64 3 w1 w v l) (hb : Below W.heap.size W w1) : Built .i64 3 W w v l := by
  refine ⟨⟨h.1.1, ?_⟩, bnext hb h.2⟩
  rcases h.1.2 with h1 | ⟨g, cap, cur, rfl, h1, hg, h2⟩
  · exact .inl h1
  · exact .inr ⟨g, cap, cur, rfl, Nat.le_trans hb.size h1, hg, h2⟩
theorem MS.new {w w1 w2 : World} {g : Nat} {av : Value} (hb : Below w.heap.size w w1) (h : Built .i64 3 w1 w2 (.slice (some ⟨g, 0, none⟩) 20 20) unm20) : MS w (w2.alloc (.cells #[av, .slice (some ⟨g, 0, none⟩) 20 20, .slice none 0 0] 109)) w2.heap.size g av (.slice none 0 0) unm20 [] := by
  have h1 := built_rebase h hb
  have hlt := BuiltC.lt h1
  have hal := below_alloc w2 (.cells #[av, .slice (some ⟨g, 0, none⟩) 20 20, .slice none 0 0] 109)
  have hg := heap_alloc_new w2 (.cells #[av, .slice (some ⟨g, 0, none⟩) 20 20, .slice none 0 0] 109)
  refine ⟨newBox w2 _ _ _ _ rfl, newBox w2 _ _ _ _ rfl, newBox w2 _ _ _ _ rfl, by unfold World.frozen?; rw [hg]; simp, h1.grow hal, BuiltC.nil _ _ _ _ (bnext h1.below hal), by omega, by simp [blk], by simp [blk], h1.below.size, by simp, by simp [unm20], by simp, fun x hx => by rw [List.eq_of_mem_replicate hx]; unfold inI; omega⟩

set_option maxRecDepth 100000 in
set_option maxHeartbeats 2000000 in
theorem iNew_any (w : World) (ta ua : Option Addr) (tn tc un uc : Nat) :
    Calls Try.prog 68 #[.agg #[.slice ta tn tc, .slice ua un uc]] w (fun e w' => ∃ X MB, e = .returned (.pointer (some ⟨X, 0, none⟩)) ∧ MS w w' X MB (.slice ua un uc) (.slice none 0 0) unm20 []) := by
  obtain ⟨W, hW⟩ : ∃ W, W = w.alloc (.cells #[.slice ta tn tc, .slice ua un uc] 35) := ⟨_, rfl⟩
  have hbW : Below w.heap.size w W := by rw [hW]; exact below_alloc _ _
  have q1 : W.cell? ⟨w.heap.size, 1, none⟩ = some (.slice ua un uc) := by rw [hW]; exact newBox w _ _ _ _ rfl
  have HWE := Lib.hid hW
  have HBW := Lib.hid hbW
  have hal := below_alloc W (.cells #[.int .i64 (-1000)] 3)
  have HDA := Lib.hid (bnext hbW hal).drew
  have q1a := cellk hal q1
  have HREP := Lib.hid (iRepeat_any (W.alloc (.cells #[.int .i64 (-1000)] 3)).drew W.heap.size (newBox W #[.int .i64 (-1000)] 3 0 _ rfl))
  clear hW hbW hal
  go_enter Try.func68, Try.ntmps68
  go_upto_region 1 with fail
  rw [← HWE.out]
  clear HWE
  go_region_law (first
    | (go_simp; go_at_call 91; refine HREP.out.mono ?_; rintro e2 w2 ⟨g, rfl, hB⟩; have q1b := cellk hB.below q1a; have HMS := Lib.hid (MS.new (av := .slice ua un uc) HDA.out hB)))
  all_goals (go_wp2_with fail; go_ret)
  all_goals exact ⟨_, _, rfl, HMS.out⟩

theorem FoundO.below {w w1 w2 w3 : World} {o : Option (List Int)} {yv : Value} {b : Bool} (h : FoundO w1 w2 o yv b) (h1 : w.heap.size ≤ w1.heap.size) : FoundO w w2 o yv b := h.wide h1

set_option maxRecDepth 100000 in
set_option maxHeartbeats 4000000 in
theorem iSearchM_any (w : World) (vf vt : Value) (f t : QueryD) (hf : RdQuery w vf f) (ht : RdQuery w vt t) (h1 : ∀ x ∈ f.1, x < 20) (h2 : ∀ a ∈ f.2, ∀ x ∈ a.2, x < 20) (h3 : ∀ x ∈ t.1, x ≠ -1000) (h4 : ∀ b ∈ t.2, ∀ x ∈ b.2, x ≠ -1000) (hlim : f.1.length + sumArgs f.2 ≤ 1000000) :
    Calls Try.prog 48 #[vf, vt] w (fun e w' => ∃ yv b, e = .returned (.tuple #[yv, .bool b]) ∧ FoundO w w' (findN f t) yv b ∧ Below w.heap.size w w') := by
  obtain ⟨fa, fn, fc, ga, gn, gc, rfl, hf1, hf2⟩ := hf
  obtain ⟨ta, tn, tc, ua, un, uc, rfl, ht1, ht2⟩ := ht
  obtain ⟨W, hW⟩ : ∃ W, W = ((w.alloc (.cells #[.slice fa fn fc, .slice ga gn gc] 35)).alloc (.cells #[.slice ta tn tc, .slice ua un uc] 35)) := ⟨_, rfl⟩
  have hbW : Below w.heap.size w W := by rw [hW]; exact ((Below.refl _ _).alloc (Nat.le_refl _) _).alloc (by simp) _
  have q0 : W.cell? ⟨w.heap.size, 0, none⟩ = some (.slice fa fn fc) := by rw [hW]; simp
  have q1 : W.cell? ⟨w.heap.size, 1, none⟩ = some (.slice ga gn gc) := by rw [hW]; simp
  have q2 : W.cell? ⟨w.heap.size + 1, 0, none⟩ = some (.slice ta tn tc) := by rw [hW]; simp
  have q3 : W.cell? ⟨w.heap.size + 1, 1, none⟩ = some (.slice ua un uc) := by rw [hW]; simp
  have HWE := Lib.hid hW
  have HBW := Lib.hid hbW
  have HF1 := Lib.hid (hf1.below hbW)
  have HT1 := Lib.hid (ht1.below hbW)
  have HF2 : Hid (RdAtomS W (.slice ga gn gc) f.2) := RdAtomS.below ⟨_, _, _, rfl, hf2⟩ hbW
  have HT2 : Hid (RdSl 2 CsAtom W (.slice ua un uc) t.2) := RdSl.below ht2 (fun _ _ h => h.below hbW) hbW
  have H1 := Lib.hid h1
  have H2 := Lib.hid h2
  have H3 := Lib.hid h3
  have H4 := Lib.hid h4
  have HLIM := Lib.hid hlim
  have HNW := Lib.hid (iNew_any W ta ua tn tc un uc)
  clear hf1 hf2 ht1 ht2 h1 h2 h3 h4 hlim hW hbW
  go_enter Try.func48, Try.ntmps48
  go_upto_region 1 with fail
  rw [← HWE.out]
  clear HWE
  go_wp2_with fail
  refine HNW.out.mono ?_
  rintro e w1 ⟨X, MB, rfl, hms⟩
  have r0 := cellk hms.below q0
  have r1 := cellk hms.below q1
  have r2 := cellk hms.below q2
  have HM1 := Lib.hid hms
  have HTA := Lib.hid (iTurnAll_any W w1 X MB (.slice ua un uc) (.slice none 0 0) unm20 [] hms (.slice fa fn fc) (.slice ta tn tc) f.1 t.1 HF1.out HT1.out H1.out H3.out (by have := HLIM.out; simp; omega))
  clear hms
  go_wp2_with fail
  refine HTA.out.mono ?_
  rintro e w2 ⟨mv2, mp2, m2, rfl, hm2, he2, hx2, hp2, hs2⟩
  have s1 := cellk hm2.below q1
  have HM2 := Lib.hid hm2
  have HB2 := Lib.hid (bnext HBW.out hm2.below)
  have HSZ : Hid (w.heap.size ≤ w2.heap.size) := HB2.out.size
  cases hp : (decide (f.1.length = t.1.length) && (uniF unm20 f.1 t.1).2) with
  | false =>
    have HN : Hid (findN f t = none) := by unfold Hid findN; rw [if_neg (fun h => by have h5 := h.2; change (uniF unm20 f.1 t.1).2 = true at h5; rw [decide_eq_true h.1, h5] at hp; cases hp)]
    clear hp hm2 he2 hx2 hp2
    go_wp2_with fail
    go_ret2
    exact ⟨.slice none 0 0, false, rfl, by rw [HN.out]; exact ⟨rfl, rfl⟩, HB2.out⟩
  | true =>
    have hp5 : f.1.length = t.1.length ∧ (uniF unm20 f.1 t.1).2 = true := by simpa using hp
    have HN : Hid (findN f t = srch t.2 f.2 m2) := by unfold Hid findN; rw [if_pos ⟨hp5.1, hp5.2⟩, he2 hp5.1]; rfl
    have HPL := Lib.hid (iPlace_any W X MB ua un uc t.2 HT2.out H4.out f.2 H2.out w2 (.slice ga gn gc) mv2 m2 mp2 HF2.out HM2.out (by have := HLIM.out; simp at hp2; omega))
    clear hp hm2 he2 hx2 hp2 hp5
    go_wp2_with fail
    refine HPL.out.mono ?_
    rintro e w3 ⟨yv, bb, mv3, rfl, hm3, hf3, hs3⟩
    have HF3 := Lib.hid hf3
    have HB3 := Lib.hid (bnext HBW.out hm3.below)
    clear hm3 hf3
    go_wp2_with fail
    go_ret2
    exact ⟨yv, bb, rfl, by rw [HN.out]; exact HF3.out.wide HSZ.out, HB3.out⟩
end Go.Proofs.Ytcabgdaloffcdaa
