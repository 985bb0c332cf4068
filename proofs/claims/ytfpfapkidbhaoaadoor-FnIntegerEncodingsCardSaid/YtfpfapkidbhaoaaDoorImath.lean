/- Plain facts: what is encoded is decoded again. -/
import Derived.Test.YtfpfapkidbhaoaaDoorDvar
import Derived.Test.YtfpfapkidbhaoaaDoorDhexB
import Derived.Test.YtfpfapkidbhaoaaDoorPimpl
namespace Go.Proofs.YtfpfapkidbhaoaaDoor
open Go.RowKit
set_option linter.unusedVariables false

theorem data_bytes (xs : List Int) : (strOfNums xs).data.toList = Lib.bytesOf xs := rfl
theorem data_app (a b : ByteArray) : (a ++ b).data.toList = a.data.toList ++ b.data.toList := by
  obtain ⟨⟨x⟩⟩ := a
  obtain ⟨⟨y⟩⟩ := b
  rw [ByteArray.mk_append_mk]
theorem size_app (a b : ByteArray) : (a ++ b).size = a.size + b.size := by simp [ByteArray.size_append]
theorem ints_bytes (xs : List Int) (h : ∀ x ∈ xs, 0 ≤ x ∧ x < 256) : ints (Lib.bytesOf xs) = xs := ((bytesOf_inj xs _ h).1 rfl).symm

/-- Varints. -/
theorem good_ge : ∀ (l : List UInt8), good l = true → ∀ j (h : j < l.length), j + 1 < l.length → 128 ≤ l[j].toNat := by
  have hends : ∀ (l : List UInt8), ends l = true → ∀ j (h : j < l.length), j + 1 < l.length → 128 ≤ l[j].toNat := by
    intro l
    induction l with
    | nil => intro _ j h; simp at h
    | cons b l ih =>
      intro he j h hj
      cases l with
      | nil => simp at hj
      | cons c l =>
        simp only [ends, Bool.and_eq_true, decide_eq_true_eq] at he
        cases j with
        | zero => simpa using he.1
        | succ j =>
          have := ih he.2 j (by simpa using h) (by simpa using hj)
          simpa using this
  intro l hg j h hj
  match l, hg, h, hj with
  | [], _, h, _ => simp at h
  | [b], _, _, hj => simp at hj
  | b :: c :: l, hg, h, hj =>
    simp only [good, Bool.and_eq_true, decide_eq_true_eq] at hg
    cases j with
    | zero => simpa using hg.1
    | succ j =>
      have := hends (c :: l) hg.2 j (by simpa using h) (by simpa using hj)
      simpa using this
theorem venc_length (n : Nat) : ∀ k, n < 128 ^ k → 1 ≤ k → 1 ≤ (venc n).length ∧ (venc n).length ≤ k := by
  induction n using venc.induct with
  | case1 m h => intro k _ hk; rw [venc_lt h]; simp; omega
  | case2 m h ih =>
    intro k hm hk
    rw [venc_ge (by omega)]
    obtain ⟨j, rfl⟩ : ∃ j, k = j + 1 := ⟨k - 1, by omega⟩
    have hj : 1 ≤ j := by
      rcases Nat.eq_zero_or_pos j with rfl | h'
      · simp at hm; omega
      · exact h'
    rw [Nat.pow_succ] at hm
    have := ih j (by omega) hj
    simp
    omega
theorem val_venc (n : Nat) : val (Lib.bytesOf (venc n)) = n := by
  have hb : ∀ x : Nat, x < 256 → (UInt8.ofNat (x : Int).toNat).toNat = x := by
    intro x hx; simp; omega
  induction n using venc.induct with
  | case1 m h =>
    rw [venc_lt h]
    show (UInt8.ofNat (m : Int).toNat).toNat % 128 + 128 * 0 = m
    rw [hb m (by omega)]; omega
  | case2 m h ih =>
    rw [venc_ge (by omega)]
    show (UInt8.ofNat ((128 + m % 128 : Nat) : Int).toNat).toNat % 128 + 128 * val (Lib.bytesOf (venc (m / 128))) = m
    rw [hb (128 + m % 128) (by omega), ih]; omega
theorem good_venc (n : Nat) : good (Lib.bytesOf (venc n)) = true := by
  have hne : Lib.bytesOf (venc n) ≠ [] := by
    intro h
    have h1 := (venc_length n (n + 1) (Nat.lt_of_lt_of_le (Nat.lt_pow_self (by decide : 1 < 128)) (Nat.pow_le_pow_right (by decide) (by omega))) (by omega)).1
    have := congrArg List.length h
    simp [Lib.bytesOf] at this
    rw [this] at h1
    simp at h1
  rw [← venc_val _ hne, val_venc, ints_bytes _ (venc_range n)]
theorem pre_app (xs : List Int) (T : ByteArray) : pre (strOfNums xs ++ T) xs.length = Lib.bytesOf xs := by
  unfold pre
  rw [data_app, data_bytes, List.take_append_of_le_length (by simp [Lib.bytesOf]), List.take_of_length_le (by simp [Lib.bytesOf])]
/-- The varint of n, whatever follows, is decoded again. -/
theorem dvar_enc (n : Nat) (T : ByteArray) (w : World) (hn : n ≤ 562949953421311) (hT : T.size ≤ 40) :
    Calls Tryd.prog 10 #[.string (strOfNums (venc n) ++ T)] w fun e w' => e = .returned (.tuple #[.int .i64 n, .int .i64 ((strOfNums (venc n)).size : Nat)]) ∧ w = w' := by
  have hl := venc_length n 7 (by omega) (by omega)
  have hsz : (strOfNums (venc n) ++ T).size = (venc n).length + T.size := by rw [size_app, strOfNums_size]
  have hp := pre_app (venc n) T
  have hg : good (pre (strOfNums (venc n) ++ T) (venc n).length) = true := by rw [hp]; exact good_venc n
  have hv : val (pre (strOfNums (venc n) ++ T) (venc n).length) = n := by rw [hp, val_venc]
  have hge : ∀ j (h : j < (strOfNums (venc n) ++ T).size), j + 1 < (venc n).length → 128 ≤ (strOfNums (venc n) ++ T)[j].toNat := by
    intro j h hj
    have hlen : (pre (strOfNums (venc n) ++ T) (venc n).length).length = (venc n).length := by rw [hp]; simp [Lib.bytesOf]
    have := good_ge _ hg j (by omega) (by omega)
    have e : (pre (strOfNums (venc n) ++ T) (venc n).length)[j]'(by omega) = (strOfNums (venc n) ++ T)[j] := by
      simp [pre]; rfl
    rwa [e] at this
  rcases dvar_cases (strOfNums (venc n) ++ T) with ⟨K, h1, h7, hK, hgK, hnK, hgeK, hltK, hnzK⟩ | ⟨hnone, _⟩
  · have hKe : K = (venc n).length := by
      rcases Nat.lt_trichotomy K (venc n).length with h | h | h
      · have := hge (K - 1) (by omega) (by omega)
        omega
      · exact h
      · have := hnK _ hl.1 h
        rw [hg] at this; cases this
    subst hKe
    have := iDecodeVarint_yes (strOfNums (venc n) ++ T) (venc n).length w (by omega) h1 h7 hK hgeK hltK hnzK
    rw [hv] at this
    rw [strOfNums_size]
    exact this
  · have := hnone _ hl.1 hl.2 (by omega)
    rw [hg] at this; cases this
theorem dvar_any (s : ByteArray) (w : World) (hs : s.size ≤ 1048576) :
    ∃ x k : Int, Calls Tryd.prog 10 #[.string s] w fun e w' => e = .returned (.tuple #[.int .i64 x, .int .i64 k]) ∧ w = w' := by
  rcases dvar_cases s with ⟨K, h1, h7, hK, hg, hn, hge, hlt, hnz⟩ | ⟨hn, M, h7, hM, hge, hend⟩
  · exact ⟨_, _, iDecodeVarint_yes s K w hs h1 h7 hK hge hlt hnz⟩
  · exact ⟨_, _, iDecodeVarint_no s M w hs h7 hM hge hend⟩

/-- Fixed widths. -/
theorem digs_range (k n : Nat) : ∀ x ∈ digs k n, 0 ≤ x ∧ x < 256 := by
  induction k generalizing n with
  | zero => intro x hx; simp [digs] at hx
  | succ k ih =>
    intro x hx
    rw [digs, List.mem_append] at hx
    rcases hx with hx | hx
    · exact ih _ x hx
    · simp at hx; omega
theorem dfix_digs (k n : Nat) : dfix (Lib.bytesOf (digs k n)) = ((n % 256 ^ k : Nat) : Int) := by
  induction k generalizing n with
  | zero => simp [digs, Lib.bytesOf, dfix, Nat.mod_one]
  | succ k ih =>
    have e : Lib.bytesOf (digs (k + 1) n) = Lib.bytesOf (digs k (n / 256)) ++ [UInt8.ofNat (((n % 256 : Nat) : Int)).toNat] := by
      simp [Lib.bytesOf, digs]
    have hb : (UInt8.ofNat (((n % 256 : Nat) : Int)).toNat).toNat = n % 256 := by simp; omega
    rw [e, dfix_snoc, ih, hb, Nat.pow_succ, Nat.mul_comm (256 ^ k) 256, Nat.mod_mul]
    omega
theorem dfix_enc (d n : Nat) (T : ByteArray) (hn : n < 256 ^ d) : dfix ((strOfNums (digs d n) ++ T).data.toList.take d) = (n : Int) := by
  have := pre_app (digs d n) T
  rw [digs_length] at this
  unfold pre at this
  rw [this, dfix_digs, Nat.mod_eq_of_lt hn]
theorem dfix_any (s : ByteArray) (d : Int) (w : World) (hs : s.size ≤ 1048576) :
    ∃ (x : Int) (b : Bool), Calls Tryd.prog 13 #[.string s, .int .i64 d] w fun e w' => e = .returned (.tuple #[.int .i64 x, .bool b]) ∧ w = w' := by
  by_cases hd : 1 ≤ d ∧ d ≤ 7 ∧ d ≤ s.size
  · obtain ⟨k, rfl⟩ := Int.eq_ofNat_of_zero_le (show 0 ≤ d by omega)
    exact ⟨_, _, iDecodeFixed_yes s k w (by unfold maxLen; omega) (by omega) (by omega) (by omega)⟩
  · exact ⟨_, _, iDecodeFixed_no s d w (by unfold maxLen; omega) (by omega)⟩

/-- Hexadecimal digits. -/
theorem hexV_D (k : Int) (h0 : 0 ≤ k) (h1 : k < 16) : hexV (hexD k) = k := (hexV_hexD k _ h0 h1).1 rfl
theorem hexD_range (k : Int) (h0 : 0 ≤ k) (h1 : k < 16) : 0 ≤ hexD k ∧ hexD k < 256 := by unfold hexD; split <;> omega
theorem henc_at (l : List UInt8) (i : Nat) (h : i < l.length) : (henc l)[2 * i]? = some (hexD ((l[i].toNat : Int) / 16)) ∧ (henc l)[2 * i + 1]? = some (hexD ((l[i].toNat : Int) % 16)) := by
  induction l generalizing i with
  | nil => simp at h
  | cons b l ih =>
    have e : henc (b :: l) = hexD ((b.toNat : Int) / 16) :: hexD ((b.toNat : Int) % 16) :: henc l := by simp [henc]
    rw [e]
    cases i with
    | zero => exact ⟨rfl, rfl⟩
    | succ i =>
      have := ih i (by simpa using h)
      rw [show 2 * (i + 1) = 2 * i + 2 from by omega, show 2 * i + 2 + 1 = 2 * i + 1 + 2 from by omega]
      simpa using this
theorem hx_enc (T : ByteArray) (i : Nat) (h : i < T.size) :
    hx (strOfNums (henc T.data.toList)) (2 * i) = (T[i].toNat : Int) / 16 ∧ hx (strOfNums (henc T.data.toList)) (2 * i + 1) = (T[i].toNat : Int) % 16 := by
  have hl : i < T.data.toList.length := by simpa using h
  obtain ⟨h1, h2⟩ := henc_at T.data.toList i hl
  have e : T.data.toList[i] = T[i] := rfl
  rw [e] at h1 h2
  have hb := T[i].toNat_lt
  have key : ∀ (j : Nat) (k : Int), 0 ≤ k → k < 16 → (henc T.data.toList)[j]? = some (hexD k) → hx (strOfNums (henc T.data.toList)) j = k := by
    intro j k h0 h1 hj
    unfold hx
    rw [data_bytes, List.getD, Lib.bytesOf, List.getElem?_map, hj]
    have hr := hexD_range k h0 h1
    have e2 : (((UInt8.ofNat (hexD k).toNat).toNat : Nat) : Int) = hexD k := by simp; omega
    simp only [Option.map_some, Option.getD_some]
    rw [e2, hexV_D k h0 h1]
  exact ⟨key _ _ (by omega) (by omega) h1, key _ _ (by omega) (by omega) h2⟩
theorem hexenc_size (T : ByteArray) : (strOfNums (henc T.data.toList)).size = 2 * T.size := by
  rw [strOfNums_size, henc_length]; simp
theorem pairs_enc (T : ByteArray) : strOfNums (pairs (strOfNums (henc T.data.toList)) T.size) = T := by
  have hp : pairs (strOfNums (henc T.data.toList)) T.size = T.data.toList.map fun b => (b.toNat : Int) := by
    apply List.ext_getElem
    · simp [pairs]
    · intro i h1 h2
      have hi : i < T.size := by simpa [pairs] using h1
      obtain ⟨ha, hb⟩ := hx_enc T i hi
      simp only [pairs, List.getElem_map, List.getElem_range, pair, ha, hb]
      have e : T.data.toList[i]'(by simpa using hi) = T[i] := rfl
      rw [e]; omega
  rw [hp]
  apply ByteArray.ext
  apply Array.toList_inj.1
  rw [data_bytes, Lib.bytesOf, List.map_map]
  conv => rhs; rw [← List.map_id T.data.toList]
  apply List.map_congr_left
  intro b _
  simp
theorem dhex_enc (T : ByteArray) (w : World) (hT : T.size ≤ 40) :
    Calls Tryd.prog 16 #[.string (strOfNums (henc T.data.toList))] w fun e w' => e = .returned (.tuple #[.string T, .bool true]) ∧ Below w.heap.size w w' := by
  have hs := hexenc_size T
  have h := iDecodeHex_any (strOfNums (henc T.data.toList)) w (by omega) true (fun _ => ⟨by omega, fun j hj => ?_⟩) (fun h => by cases h)
  · rw [hs, show 2 * T.size / 2 = T.size from by omega, if_pos rfl, pairs_enc] at h
    exact h
  · have hi : j / 2 < T.size := by omega
    obtain ⟨ha, hb⟩ := hx_enc T (j / 2) hi
    have hb2 := T[j / 2].toNat_lt
    rcases Nat.mod_two_eq_zero_or_one j with hm | hm
    · rw [show 2 * (j / 2) = j from by omega] at ha
      rw [ha]; omega
    · rw [show 2 * (j / 2) + 1 = j from by omega] at hb
      rw [hb]; omega

/-- Numerals. -/
theorem isDig_ofNat (k : Nat) (h : k < 10) : isDig (UInt8.ofNat (48 + k)) = true ∧ (UInt8.ofNat (48 + k)).toNat - 48 = k := by
  have e : (UInt8.ofNat (48 + k)).toNat = 48 + k := by
    rw [UInt8.toNat_ofNat']
    omega
  rw [e]
  refine ⟨?_, by omega⟩
  unfold isDig
  rw [e]
  simp
  omega
theorem pv_dec (u : Nat) : pv (Lib.decDigits u) = u := by
  induction u using Nat.strongRecOn with
  | _ u ih =>
    by_cases h : u < 10
    · obtain ⟨h1, h2⟩ := isDig_ofNat u h
      rw [Lib.decDigits, dif_pos h]
      show (if isDig (UInt8.ofNat (48 + u)) then 0 * 10 + ((UInt8.ofNat (48 + u)).toNat - 48) else 0) = u
      rw [if_pos h1, h2]; omega
    · obtain ⟨h1, h2⟩ := isDig_ofNat (u % 10) (by omega)
      rw [Lib.decDigits, dif_neg h, pv_snoc, if_pos h1, h2, ih (u / 10) (by omega)]
      omega
theorem dec_small (u : Nat) : (Lib.decDigits u).length ≤ 9 ↔ u < 1000000000 := by
  have hk := kc_all (decDigits_all u).1
  constructor
  · intro h
    have := pv_bd (l := Lib.decDigits u) (k := 9) (by omega)
    rw [pv_dec] at this
    omega
  · intro h
    rw [Lib.decDigits_length]
    have key : ∀ k u, u < 10 ^ (k + 1) → Lib.nDigits u ≤ k + 1 := by
      intro k
      induction k with
      | zero => intro u hu; rw [Lib.nDigits_small (by omega)]; omega
      | succ k ih =>
        intro u hu
        by_cases h10 : u < 10
        · rw [Lib.nDigits_small h10]; omega
        · rw [Lib.nDigits_big h10]
          have := ih (u / 10) (by rw [Nat.pow_succ] at hu; omega)
          omega
    exact key 8 u (by omega)
theorem itoa_parts (n : Int) : sgn (Lib.itoa n) = decide (n < 0) ∧ dpart (Lib.itoa n) = Lib.decDigits n.natAbs ∧ sval (Lib.itoa n) n.natAbs = n := by
  have hnot : ∀ u, sgn (Lib.decDigits u) = false := by
    intro u
    unfold sgn
    cases hd : Lib.decDigits u with
    | nil => rfl
    | cons b r =>
      have h1 := (decDigits_all u).1
      rw [hd, List.all_cons, Bool.and_eq_true] at h1
      have h2 : b ≠ 45 := by
        intro e; subst e
        exact absurd h1.1 (by decide)
      simp [h2]
  by_cases hn : n < 0
  · have e : Lib.itoa n = 45 :: Lib.decDigits n.natAbs := by unfold Lib.itoa; rw [if_pos hn]
    have hs : sgn (Lib.itoa n) = true := by rw [e]; rfl
    refine ⟨by rw [hs]; simp [hn], ?_, ?_⟩
    · unfold dpart; rw [if_pos hs, e]; rfl
    · unfold sval; rw [if_pos hs]; omega
  · have e : Lib.itoa n = Lib.decDigits n.natAbs := by unfold Lib.itoa; rw [if_neg hn]; congr 1; omega
    have hs : sgn (Lib.itoa n) = false := by rw [e]; exact hnot _
    refine ⟨by rw [hs]; simp [hn], ?_, ?_⟩
    · unfold dpart; rw [hs]; exact e
    · unfold sval; rw [hs]; simp; omega
theorem parse_itoa (n : Int) : (sOk (Lib.itoa n) = (decide (-1000000000 < n) && decide (n < 1000000000))) ∧ sRes (Lib.itoa n) = if sOk (Lib.itoa n) then n else 0 := by
  obtain ⟨_, h2, h3⟩ := itoa_parts n
  have hall := decDigits_all n.natAbs
  have hsm := dec_small n.natAbs
  have hi : iOk (Lib.itoa n) = decide ((Lib.decDigits n.natAbs).length ≤ 9) := by
    unfold iOk
    rw [h2, pv_dec, h3, hall.1]
    simp [hall.2]
  rw [(ok_eq _).1, hi]
  constructor
  · rw [Bool.eq_iff_iff]
    simp only [Bool.and_eq_true, decide_eq_true_eq]
    rw [hsm]; omega
  · rw [← iRes_eq]
    unfold iRes
    rw [hi, h2, pv_dec, h3]
end Go.Proofs.YtfpfapkidbhaoaaDoor
