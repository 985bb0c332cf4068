/- Contracts: spec.DecodeVarint and impl.DecodeVarint return the value and the length of the varint at the head of s, or 0 and 0. -/
import Derived.Test.YtfpfapkidbhaoaaDoorVmath
import Derived.Test.YtfpfapkidbhaoaaDoorHex
import Derived.Lib.Bytes
import Derived.Lib.Strings
import Derived.Lib.VarintBits
namespace Go.Proofs.YtfpfapkidbhaoaaDoor
open Go.RowKit
set_option linter.unusedVariables false

abbrev pre (s : ByteArray) (k : Nat) : List UInt8 := s.data.toList.take k
theorem pre_drop (s : ByteArray) (k q : Nat) (hk : k ≤ s.size) (hq : q < k) : (pre s k).drop q = s[q] :: (pre s k).drop (q + 1) := by
  have hl : q < (pre s k).length := by simp [pre]; omega
  rw [List.drop_eq_getElem_cons hl]
  congr 1
  simp [pre]
  rfl
theorem val_drop (s : ByteArray) (k q : Nat) (hk : k ≤ s.size) (hq : q < k) : val ((pre s k).drop q) = s[q].toNat % 128 + 128 * val ((pre s k).drop (q + 1)) := by
  rw [pre_drop s k q hk hq, val]

theorem venc_range (n : Nat) : ∀ x ∈ venc n, 0 ≤ x ∧ x < 256 := by
  induction n using venc.induct with
  | case1 m h => rw [venc_lt h]; simp; omega
  | case2 m h ih =>
    rw [venc_ge (by omega)]
    intro x hx
    rcases List.mem_cons.1 hx with rfl | hx
    · omega
    · exact ih x hx
theorem bytesOf_inj : ∀ (xs : List Int) (l : List UInt8), (∀ x ∈ xs, 0 ≤ x ∧ x < 256) → (Lib.bytesOf xs = l ↔ xs = ints l)
  | [], l, _ => by cases l <;> simp [Lib.bytesOf, ints]
  | x :: xs, [], _ => by simp [Lib.bytesOf, ints]
  | x :: xs, b :: l, h => by
    have ih := bytesOf_inj xs l (fun y hy => h y (List.mem_cons_of_mem _ hy))
    have hx := h x (List.mem_cons_self ..)
    have hb := b.toNat_lt
    simp only [Lib.bytesOf, ints, List.map_cons, List.cons.injEq] at ih ⊢
    rw [ih]
    have e : UInt8.ofNat x.toNat = b ↔ x = (b.toNat : Int) := by
      rw [← UInt8.toNat_inj]
      simp
      omega
    rw [e]
theorem cmp_str (s : ByteArray) (k : Nat) (hk1 : 1 ≤ k) (hk : k ≤ s.size) : ((strOfNums (venc (val (pre s k)))).toList == (s.extract 0 k).toList) = good (pre s k) := by
  have hne : pre s k ≠ [] := by
    intro h
    have := congrArg List.length h
    have hl : s.data.toList.length = s.size := by simp
    simp only [pre, List.length_take, List.length_nil] at this
    omega
  rw [Lib.strOfNums_toList, Lib.extract_toList, Bool.eq_iff_iff, beq_iff_eq]
  simp only [List.drop_zero, Nat.sub_zero]
  rw [bytesOf_inj _ _ (venc_range _)]
  exact venc_val _ hne

theorem wrap64_small (x : Int) (h0 : 0 ≤ x) (h1 : x < 9223372036854775808) : wrap64 x = x := by unfold wrap64; omega
theorem or_step (V k : Nat) (b : UInt8) (hV : V < 128 ^ k) (hk : k ≤ 6) :
    bits .or .i64 (V : Int) (wrap64 (wrap64 (bits .and .u8 (b.toNat : Int) 127) * 2 ^ (7 * k))) = ((V + b.toNat % 128 * 128 ^ k : Nat) : Int) := by
  have hb := b.toNat_lt
  rw [u8_and127 _ (by omega) (by omega), wrap64_small ((b.toNat : Int) % 128) (by omega) (by omega)]
  have hp : (2 : Int) ^ (7 * k) = ((128 ^ k : Nat) : Int) := by rw [show (128 : Nat) = 2 ^ 7 from rfl, ← Nat.pow_mul]; simp
  have h6 : 128 ^ k ≤ 128 ^ 6 := Nat.pow_le_pow_right (by decide) hk
  have hx : ((b.toNat : Int) % 128 * 2 ^ (7 * k)) = ((b.toNat % 128 * 128 ^ k : Nat) : Int) := by rw [hp]; simp
  have hm : b.toNat % 128 * 128 ^ k ≤ 127 * 128 ^ 6 := Nat.mul_le_mul (by omega) h6
  rw [hx, wrap64_small _ (by omega) (by omega)]
  have hj := bits_join_low .i64 63 (by decide) wraps_i64' (7 * k) (V : Int) ((b.toNat % 128 * 128 ^ k : Nat) : Int) (by omega) (by rw [hp]; omega) (by omega) (by omega) (by rw [hp, ← Int.natCast_emod, Nat.mul_mod_left]; rfl) (by omega)
  rw [hj]
  simp
theorem pre_snoc (s : ByteArray) (k : Nat) (h : k < s.size) : val (pre s (k + 1)) = val (pre s k) + s[k].toNat % 128 * 128 ^ k := by
  rw [pre, take_snoc s k h, val_app]
  have : (s.data.toList.take k).length = k := by
    have hl : s.data.toList.length = s.size := by simp
    rw [List.length_take]; omega
  rw [this]
theorem pre_lt (s : ByteArray) (k : Nat) (h : k ≤ s.size) : val (pre s k) < 128 ^ k := by
  have h1 := val_lt (pre s k)
  have : (pre s k).length = k := by
    have hl : s.data.toList.length = s.size := by simp
    rw [pre, List.length_take]; omega
  rwa [this] at h1
theorem ret_int2 {k : IntKind} {a b c d : Int} (h : a = b) (h' : c = d) : Ending.returned (.tuple #[.int k a, .int k c]) = .returned (.tuple #[.int k b, .int k d]) := by rw [h, h']

set_option maxRecDepth 100000 in
set_option maxHeartbeats 1000000 in
theorem iDecodeVarint_yes (s : ByteArray) (K : Nat) (w : World) (hs : s.size ≤ 1048576) (h1 : 1 ≤ K) (h7 : K ≤ 7) (hK : K ≤ s.size) (hge : ∀ j (h : j < s.size), j + 1 < K → 128 ≤ s[j].toNat) (hlt : s[K - 1].toNat < 128) (hnz : 1 < K → s[K - 1].toNat ≠ 0) :
    Calls Tryd.prog 10 #[.string s] w fun e w' => e = .returned (.tuple #[.int .i64 (val (pre s K)), .int .i64 K]) ∧ w = w' := by
  have HG := Lib.hid hge
  clear hge
  by_cases hm : s.size ≤ 7
  all_goals
    go_enter Tryd.func10, Tryd.ntmps10
    go_wp2
    go_loop [4, 5, 9] (fun nv _ iv => ∃ k : Nat, k < K ∧ iv = .int .i64 k ∧ nv = .int .i64 (val (pre s k))) (fun _ _ iv => 8 - (intOf iv).toNat)
    case atStart => exact ⟨0, by omega, rfl, rfl⟩
    case round =>
      obtain ⟨k, hk, rfl, rfl⟩ := hrel
      have hks : k < s.size := by omega
      have hor := or_step (val (pre s k)) k s[k] (pre_lt s k (by omega)) (by omega)
      rw [← pre_snoc s k hks] at hor
      have hbd := val_bd (l := pre s k) (by simp [pre]; omega)
      generalize val (pre s k) = V at *
      by_cases hkK : k + 1 = K
      · obtain rfl : K = k + 1 := hkK.symm
        have hl2 : ¬ (128 : Int) ≤ (s[k].toNat : Int) := by have : s[k].toNat < 128 := hlt; omega
        have hnz' : ¬ k = 0 → ¬ s[k].toNat = 0 := fun h => hnz (by omega)
        have HR := Lib.hid hor
        clear hlt hnz hor
        by_cases hk0 : k = 0
        · subst hk0
          clear hnz'
          by_cases hz : s[0].toNat = 0
          · have hz1 : ((s[0].toNat : Int) == 0) = true := by rw [hz]; rfl
            have HZ := Lib.hid hz
            clear hz
            go_wp2
            go_ret2
            exact ⟨ret_int2 (by have := HR.out; simpa using this) rfl, rfl⟩
          · have hz1 : ((s[0].toNat : Int) == 0) = false := by simp; exact hz
            go_wp2
            go_ret2
            exact ⟨ret_int2 (by have := HR.out; simpa using this) rfl, rfl⟩
        · have hz := hnz' hk0
          have hz1 : ((s[k].toNat : Int) == 0) = false := by simp; exact hz
          clear hnz' hz
          go_wp2
          go_ret2
          exact ⟨ret_int2 HR.out rfl, rfl⟩
      · have hge := HG.out k hks (by omega)
        have HR := Lib.hid hor
        clear hlt hnz hor
        go_wp2
        exact ⟨⟨k + 1, by omega, by simp, by rw [HR.out]⟩, by simp [intOf]; omega⟩

set_option maxRecDepth 100000 in
set_option maxHeartbeats 1000000 in
theorem iDecodeVarint_no (s : ByteArray) (M : Nat) (w : World) (hs : s.size ≤ 1048576) (h7 : M ≤ 7) (hM : M ≤ s.size) (hge : ∀ j (h : j < s.size), j < M → 128 ≤ s[j].toNat) (hend : (M = 7 ∨ M = s.size) ∨ (1 ≤ M ∧ M < 7 ∧ ∃ h : M < s.size, s[M].toNat = 0)) :
    Calls Tryd.prog 10 #[.string s] w fun e w' => e = .returned (.tuple #[.int .i64 0, .int .i64 0]) ∧ w = w' := by
  have HG := Lib.hid hge
  have HE := Lib.hid hend
  clear hge hend
  by_cases hm : s.size ≤ 7
  all_goals
    go_enter Tryd.func10, Tryd.ntmps10
    go_wp2
    go_loop [4, 5, 9] (fun nv _ iv => ∃ k : Nat, k ≤ M ∧ iv = .int .i64 k ∧ nv = .int .i64 (val (pre s k))) (fun _ _ iv => 8 - (intOf iv).toNat)
    case atStart => exact ⟨0, by omega, rfl, rfl⟩
    case round =>
      obtain ⟨k, hk, rfl, rfl⟩ := hrel
      by_cases hkM : k < M
      · have hks : k < s.size := by omega
        have hor := or_step (val (pre s k)) k s[k] (pre_lt s k (by omega)) (by omega)
        rw [← pre_snoc s k hks] at hor
        have hbd := val_bd (l := pre s k) (by simp [pre]; omega)
        generalize val (pre s k) = V at *
        have hge := HG.out k hks hkM
        have HR := Lib.hid hor
        clear hor
        go_wp2
        exact ⟨⟨k + 1, by omega, by simp, by rw [HR.out]⟩, by simp [intOf]; omega⟩
      · obtain rfl : k = M := by omega
        rcases HE.out with he | ⟨hz1, hz2, hz3, hz4⟩
        · have hx : s.size ≤ k ∨ 7 ≤ k := by omega
          rcases hx with hx | hx
          · clear he
            go_wp2
            all_goals (go_ret2; exact ⟨rfl, rfl⟩)
          · clear he
            go_wp2
            all_goals (go_ret2; exact ⟨rfl, rfl⟩)
        · have hzb : ((s[k].toNat : Int) == 0) = true := by rw [hz4]; rfl
          have hzl : ¬ (128 : Int) ≤ (s[k].toNat : Int) := by omega
          have hbd := val_bd (l := pre s k) (by simp [pre]; omega)
          generalize val (pre s k) = V at *
          clear hz4
          go_wp2
          go_ret2
          exact ⟨rfl, rfl⟩

/-- Every string has a varint at its head, or has none: what the two walks ask for. -/
theorem dvar_cases (s : ByteArray) :
    (∃ K, ∃ h1 : 1 ≤ K, K ≤ 7 ∧ ∃ hK : K ≤ s.size, good (pre s K) = true ∧ (∀ j, 1 ≤ j → j < K → good (pre s j) = false) ∧ (∀ j (h : j < s.size), j + 1 < K → 128 ≤ s[j].toNat) ∧ s[K - 1].toNat < 128 ∧ (1 < K → s[K - 1].toNat ≠ 0)) ∨
    ((∀ j, 1 ≤ j → j ≤ 7 → j ≤ s.size → good (pre s j) = false) ∧ ∃ M, M ≤ 7 ∧ M ≤ s.size ∧ (∀ j (h : j < s.size), j < M → 128 ≤ s[j].toNat) ∧ ((M = 7 ∨ M = s.size) ∨ (1 ≤ M ∧ M < 7 ∧ ∃ h : M < s.size, s[M].toNat = 0))) := by
  have hl : s.data.toList.length = s.size := by simp
  have hat : ∀ j (h : j < s.size), good (pre s (j + 1)) = ((pre s j).all (fun c => decide (128 ≤ c.toNat)) && (decide (s[j].toNat < 128) && ((pre s j).isEmpty || decide (s[j].toNat ≠ 0)))) := by
    intro j h
    rw [pre, take_snoc s j h, good_app]
  -- the number of bytes ahead that go on
  have hM : ∀ m, m ≤ 7 → m ≤ s.size → (∀ j (h : j < s.size), j < m → 128 ≤ s[j].toNat) ∨ ∃ M, M < m ∧ (∀ j (h : j < s.size), j < M → 128 ≤ s[j].toNat) ∧ ∃ h : M < s.size, s[M].toNat < 128 := by
    intro m
    induction m with
    | zero => intro _ _; left; intro j _ h; omega
    | succ m ih =>
      intro h7 hs
      rcases ih (by omega) (by omega) with h | ⟨M, hM, h⟩
      · by_cases hc : s[m].toNat < 128
        · exact .inr ⟨m, by omega, h, by omega, hc⟩
        · left
          intro j hj hjm
          by_cases e : j = m
          · subst e; omega
          · exact h j hj (by omega)
      · exact .inr ⟨M, by omega, h⟩
  have hall : ∀ j, j ≤ s.size → (∀ i (h : i < s.size), i < j → 128 ≤ s[i].toNat) → (pre s j).all (fun c => decide (128 ≤ c.toNat)) = true := by
    intro j hj h
    rw [List.all_eq_true]
    intro c hc
    obtain ⟨i, hi, rfl⟩ := List.mem_iff_getElem.1 hc
    have hi' : i < j ∧ i < s.size := by simp [pre] at hi; omega
    have := h i hi'.2 hi'.1
    simp [pre]
    exact this
  have hbad : ∀ j, (h1 : 1 ≤ j) → (hj : j ≤ s.size) → 128 ≤ (s[j - 1]'(by omega)).toNat → good (pre s j) = false := by
    intro j h1 hj h
    obtain ⟨i, rfl⟩ : ∃ i, j = i + 1 := ⟨j - 1, by omega⟩
    rw [hat i (by omega)]
    have : ¬ s[i].toNat < 128 := by simpa using h
    simp [this]
  rcases hM (min 7 s.size) (by omega) (by omega) with h | ⟨M, hMm, hge, hMs, hlt⟩
  · right
    refine ⟨fun j h1 h7 hj => hbad j h1 hj (h (j - 1) (by omega) (by omega)), min 7 s.size, by omega, by omega, h, by omega⟩
  · have hbef : ∀ j, 1 ≤ j → j < M + 1 → good (pre s j) = false := fun j h1 hj => hbad j h1 (by omega) (hge (j - 1) (by omega) (by omega))
    have hA := hat M hMs
    rw [hall M (by omega) hge] at hA
    by_cases hz : M = 0 ∨ s[M].toNat ≠ 0
    · left
      refine ⟨M + 1, by omega, by omega, by omega, ?_, hbef, fun j h hj => hge j h (by omega), by simpa using hlt, ?_⟩
      · rw [hA]
        rcases hz with hz | hz
        · subst hz
          simp [pre]; exact hlt
        · simp [hlt, hz]
      · intro h
        simp
        rcases hz with hz | hz
        · omega
        · exact hz
    · right
      have hz0 : s[M].toNat = 0 := by omega
      have hM1 : 1 ≤ M := by omega
      refine ⟨fun j h1 h7 hj => ?_, M, by omega, by omega, hge, .inr ⟨hM1, by omega, hMs, hz0⟩⟩
      by_cases hjM : j < M + 1
      · exact hbef j h1 hjM
      · -- a byte that ends the varint stands ahead of the end
        obtain ⟨i, rfl⟩ : ∃ i, j = i + 1 := ⟨j - 1, by omega⟩
        rw [hat i (by omega)]
        by_cases e : i = M
        · subst e
          have : (pre s i).isEmpty = false := by
            rw [List.isEmpty_eq_false_iff]
            intro h
            have := congrArg List.length h
            simp only [pre, List.length_take, List.length_nil] at this
            omega
          simp [this, hz0]
        · have hm : (pre s i).all (fun c => decide (128 ≤ c.toNat)) = false := by
            rw [List.all_eq_false]
            refine ⟨s[M], ?_, by simp; omega⟩
            rw [List.mem_iff_getElem]
            refine ⟨M, by simp [pre]; omega, by simp [pre]; rfl⟩
          rw [hm]; rfl
end Go.Proofs.YtfpfapkidbhaoaaDoor
