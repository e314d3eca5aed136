/- The walks of the laws on keys: both return true for every input, and all memory that was there is as it was. Conditions: numbers are ones of 64 bits; a text's size is within Go's bound. -/
import Derived.Test.YthjjajlacicncaaWalkH
namespace Go.Proofs.Ythjjajlacicncaa
open Go.ChangeShapes Go.WideShapes Go.ChangeAt Go.RowKit

/-- A token that an arm of a walk takes away. -/
structure Toki (k : Nat) : Prop where
  out : True

/-- A number of 64 bits is a plain one. -/
theorem u64_plain {a : Int} (h : (Lit.int .u64 a).wf = true) : ∃ n : Nat, a = n ∧ n < 18446744073709551616 := by
  simp only [Lit.wf, IntKind.min, IntKind.max, IntKind.bits, IntKind.signed] at h
  refine ⟨a.toNat, ?_, ?_⟩ <;> (simp at h; omega)

/-- The first bytes of a text. -/
theorem cut_at (s : ByteArray) (m : Nat) : ∃ tl : List Nat, Small tl ∧ tl.length ≤ m ∧ s.extract 0 (min (s.size : Int) (m : Int)).toNat = bs tl := by
  refine ⟨(un s).take (min (s.size : Int) (m : Int)).toNat, (un_small s).take _, ?_, ?_⟩
  · simp; omega
  · have := bs_extract (un s) 0 (min (s.size : Int) (m : Int)).toNat
    rw [bs_un] at this
    simpa using this

/-- A key that is read. -/
theorem unkey_key (a : Nat) (ha : a < 18446744073709551616) (tl : List Nat) (hs : Small tl) (hl : tl.length ≤ 20) (w : World) :
    Calls Try.prog 18 #[.string (bs (keyL a) ++ bs tl)] w fun e w' => e = .returned (.tuple #[.int .u64 (a : Nat), .string (bs tl), .bool true]) ∧ Kept w w' := by
  have h8 := lowL_eight a ha
  have hlen : (lowL a).reverse.length = (lowL a).length := by simp
  have e1 : keyL a ++ tl = (lowL a).length :: ((lowL a).reverse ++ tl) := rfl
  have h := unkey_ok (lowL a).length ((lowL a).reverse ++ tl) h8 (by simp) (by
    cases hr : (lowL a).reverse with
    | nil => left; simpa using hr
    | cons x r =>
      right
      have : (lowL a).getLast? = some x := by rw [← List.head?_reverse, hr]; rfl
      exact lowL_last a x this) (Small.append (fun x hx => lowL_small a x (by simpa using hx)) hs) (by simp; omega) w
  rw [List.take_left' hlen, List.drop_left' hlen, bigV_lowL] at h
  rw [bs_append, e1]
  exact h

set_option maxRecDepth 100000 in
set_option maxHeartbeats 1000000 in
theorem keys_walk (a b : Nat) (ha : a < 18446744073709551616) (hb : b < 18446744073709551616) (s : ByteArray) (hs : s.size ≤ maxLen) (w : World) :
    Calls Try.prog 4 #[.int .u64 (a : Nat), .int .u64 (b : Nat), .string s] w fun e w' => e = .returned (.bool true) ∧ Kept w w' := by
  unfold maxLen at hs
  have h12 := awake_walk
  have h17a := key_walk a ha
  have h17b := key_walk b hb
  have h19 := refkey_walk a ha
  have hless := keys_less a b ha hb
  have heq := keys_eq a b ha hb
  have T1 : Toki 1 := ⟨trivial⟩
  have hka := bs_size (keyL a)
  rw [keyL_length] at hka
  have hka8 := lowL_eight a ha
  have hka9 : (bs (keyL a)).size ≤ 9 := by omega
  obtain ⟨tl, htl, htl20, hcut0⟩ := cut_at s 20
  have hcut : s.extract 0 (min (s.size : Int) 20).toNat = bs tl := hcut0
  clear hcut0
  have h18 := unkey_key a ha tl htl htl20
  have htz : (bs tl).size ≤ 20 := by rw [bs_size]; exact htl20
  have hp : ∃ p : Bool, Op.bytesLess (bs (keyL a)).toList (bs (keyL b)).toList = p ∧ decide (a < b) = p ∧ decide ((a : Int) < (b : Int)) = p :=
    ⟨decide (a < b), hless, rfl, by simp⟩
  have hq : ∃ q : Bool, ((bs (keyL a)).toList == (bs (keyL b)).toList) = q ∧ ((a : Int) == (b : Int)) = q ∧ decide (a = b) = q ∧ (a == b) = q :=
    ⟨decide (a = b), heq, by by_cases h : a = b <;> simp [h]; omega, rfl, by by_cases h : a = b <;> simp [h]⟩
  obtain ⟨p, hp1, hp2, hp3⟩ := hp
  obtain ⟨q, hq1, hq2, hq3, hq4⟩ := hq
  generalize bs (keyL a) = x at *
  generalize bs (keyL b) = y at *
  generalize bs tl = t at *
  clear hka hka8 hless heq htl htl20
  go_enter Try.func4, Try.ntmps4
  go_wp2_with (first
    | (go_at_call 17; have := T1; refine (h17a _).mono ?_; rintro e w1 ⟨rfl, hk1⟩; clear this T1)
    | (go_at_call 17; refine (h17b _).mono ?_; rintro e w2 ⟨rfl, hk2⟩)
    | (go_at_call 18; refine (h18 _).mono ?_; rintro e w3 ⟨rfl, hk3⟩)
    | (go_at_call 12; refine (h12 _).mono ?_; rintro e w4 ⟨rfl, hk4⟩)
    | (go_at_call 19; refine (h19 _).mono ?_; rintro e w5 ⟨rfl, hk5⟩))
  go_ret
  exact ⟨rfl, ((((hk1.trans hk2).trans hk3).trans hk4).trans hk5)⟩

/-- What was read as a key is one. -/
theorem key_back (c : Nat) (rest : List Nat) (hc : c ≤ rest.length) (hz : c = 0 ∨ rest.getD 0 0 ≠ 0) (hs : Small rest) : keyL (bigV (rest.take c)) ++ rest.drop c = c :: rest := by
  have h := lowL_bigV (rest.take c).reverse (fun x hx => hs x (List.mem_of_mem_take (by simpa using hx))) (by
    intro x hx
    rw [List.getLast?_reverse] at hx
    rcases hz with h | h
    · subst h; simp at hx
    · cases rest with
      | nil => simp at hx
      | cons y r =>
        cases c with
        | zero => simp at hx
        | succ c => simp at hx h; omega)
  rw [List.reverse_reverse] at h
  unfold keyL
  rw [h, List.reverse_reverse, List.length_reverse, List.length_take, Nat.min_eq_left hc, List.cons_append, List.take_append_drop]

theorem bigV_u64 (c : Nat) (rest : List Nat) (hc : c ≤ 8) (hs : Small rest) : bigV (rest.take c) < 18446744073709551616 := by
  have h1 := bigV_lt (hs.take c)
  have h2 : 256 ^ (rest.take c).length ≤ 256 ^ 8 := Nat.pow_le_pow_right (by omega) (by simp; omega)
  omega

set_option maxRecDepth 100000 in
set_option maxHeartbeats 1000000 in
theorem unkeys_walk (s : ByteArray) (hs : s.size ≤ maxLen) (w : World) :
    Calls Try.prog 5 #[.string s] w fun e w' => e = .returned (.bool true) ∧ Kept w w' := by
  unfold maxLen at hs
  have h12 := awake_walk
  obtain ⟨tl, htl, htl20, hcut0⟩ := cut_at s 20
  have hcut : s.extract 0 (min (s.size : Int) 20).toNat = bs tl := hcut0
  clear hcut0
  by_cases hk : NoKey tl
  · have h18 := unkey_not tl hk htl (by omega)
    have htz := bs_size tl
    have hb : ∀ k (h : k < (bs tl).size), (bs tl)[k].toNat = tl.getD k 0 := by intro k h; rw [bs_get, Nat.mod_eq_of_lt (htl.getD k)]
    have HB : Hid (∀ k (h : k < (bs tl).size), (bs tl)[k].toNat = tl.getD k 0) := hb
    have HK : Hid (NoKey tl) := hk
    have HS : Hid (Small tl) := htl
    clear hb hk htl
    generalize bs tl = t at *
    go_enter Try.func5, Try.ntmps5
    go_wp2_with (go_at_call 18; refine (h18 _).mono ?_; rintro e w1 ⟨rfl, hk1⟩)
    go_loopg [7] (tl.length + 1) (fun g kv wx => ∃ k : Nat, k + g = tl.length + 1 ∧ kv = .int .i64 (k : Nat) ∧ wx = w1)
    case atStart => exact ⟨0, by omega, rfl, rfl⟩
    case round =>
      obtain ⟨k, hg, rfl, rfl⟩ := hrel
      have HG : Hid (k + gk = tl.length + 1) := hg
      cases gk with
      | zero =>
        have hkl : tl.length < k := by omega
        clear hg
        go_wp2_with (go_at_call 12; refine (h12 _).mono ?_; rintro e w4 ⟨rfl, hk4⟩)
        go_ret
        exact ⟨rfl, hk1.trans hk4⟩
      | succ g =>
        have hkl : k ≤ tl.length := by omega
        clear hg
        by_cases k0 : k = 0
        · subst k0
          go_wp2
          go_roundg g
          case measure => omega
          case rel => exact ⟨1, by have := HG.out; omega, by go_num, rfl⟩
        · by_cases k9 : 9 < k
          · go_wp2
            go_roundg g
            case measure => omega
            case rel => exact ⟨k + 1, by have := HG.out; omega, by go_num, rfl⟩
          · have h0 : 0 < t.size := by omega
            have hf := HB.out 0 h0
            obtain ⟨c, hc⟩ : ∃ c, c = tl.getD 0 0 := ⟨_, rfl⟩
            have hc256 : c < 256 := by rw [hc]; exact HS.out.getD 0
            rw [← hc] at hf
            have HC : Hid (c = tl.getD 0 0) := hc
            clear hc
            by_cases hck : c + 1 = k
            · have hm : 0 < c ∧ tl.getD 1 0 = 0 := by
                have hK := HK.out
                have hC := HC.out
                cases tl with
                | nil => simp at hkl; omega
                | cons x r =>
                  simp at hC hkl
                  subst hC
                  rcases hK with h | h | h
                  · omega
                  · omega
                  · simpa using h
              obtain ⟨hc0, hz1⟩ := hm
              have h1 : 1 < t.size := by omega
              have hf1 := HB.out 1 h1
              rw [hz1] at hf1
              clear hz1
              go_wp2
              go_roundg g
              case measure => omega
              case rel => exact ⟨k + 1, by have := HG.out; omega, by go_num, rfl⟩
            · have hne : ((c : Int) == (k : Int) - 1) = false := by simp; omega
              go_wp2
              go_roundg g
              case measure => omega
              case rel => exact ⟨k + 1, by have := HG.out; omega, by go_num, rfl⟩
  · cases tl with
    | nil => exact absurd trivial hk
    | cons c rest =>
      have h1 : c ≤ 8 ∧ c ≤ rest.length ∧ (c = 0 ∨ rest.getD 0 0 ≠ 0) := by
        refine ⟨?_, ?_, ?_⟩
        · exact Nat.le_of_not_lt fun h => hk (Or.inl h)
        · exact Nat.le_of_not_lt fun h => hk (Or.inr (Or.inl h))
        · by_cases h : c = 0
          · exact Or.inl h
          · exact Or.inr fun e => hk (Or.inr (Or.inr ⟨Nat.pos_of_ne_zero h, e⟩))
      obtain ⟨hc8, hcl, hz⟩ := h1
      have hsr : Small rest := fun x hx => htl x (by simp [hx])
      have hl2 : rest.length ≤ 20 := by simp at htl20; omega
      have h18 := unkey_ok c rest hc8 hcl hz hsr (by omega)
      have hN := bigV_u64 c rest hc8 hsr
      have h19 := refkey_walk _ hN
      have hback : bs (keyL (bigV (rest.take c))) ++ bs (rest.drop c) = bs (c :: rest) := by rw [bs_append, key_back c rest hcl hz hsr]
      have hz1 : (bs (keyL (bigV (rest.take c)))).size ≤ 9 := by rw [bs_size, keyL_length]; have := lowL_eight _ hN; omega
      have hz2 : (bs (rest.drop c)).size ≤ 20 := by rw [bs_size]; simp; omega
      generalize bs (keyL (bigV (rest.take c))) = x at *
      generalize bs (rest.drop c) = y at *
      generalize bs (c :: rest) = t at *
      generalize bigV (rest.take c) = N at *
      clear hk htl hz hsr htl20 hc8 hcl hl2
      go_enter Try.func5, Try.ntmps5
      go_wp2_with (first
        | (go_at_call 18; refine (h18 _).mono ?_; rintro e w1 ⟨rfl, hk1⟩)
        | (go_at_call 12; refine (h12 _).mono ?_; rintro e w4 ⟨rfl, hk4⟩)
        | (go_at_call 19; refine (h19 _).mono ?_; rintro e w5 ⟨rfl, hk5⟩))
      go_ret
      exact ⟨rfl, (hk1.trans hk4).trans hk5⟩
end Go.Proofs.Ythjjajlacicncaa
