/- The walk of wire.Key. Conditions: a number is one of 64 bits. -/
import Derived.Test.YtabbfoaojmhajaaNWWalkF
import Derived.Test.YtabbfoaojmhajaaQSh
namespace Go.Proofs.Ytabbfoaojmhajaa.N
open Go.ChangeShapes Go.WideShapes Go.ChangeAt Go.RowKit

theorem bits_same : ∀ (f x : Nat), x < 2 ^ f → Lib.bitLenAux f x = bitLen x := by
  intro f
  induction f with
  | zero => intro x h; obtain rfl : x = 0 := by simpa using h
            rfl
  | succ f ih =>
    intro x h
    rw [Lib.bitLenAux]
    by_cases h0 : x = 0
    · subst h0; rfl
    · rw [if_neg h0, ih (x / 2) (by rw [Nat.pow_succ] at h; omega)]
      by_cases h1 : x / 2 = 0
      · obtain rfl : x = 1 := by omega
        decide
      · rw [bitLen_shift x 1 (by simpa using h1)]

theorem len64_walk (n : Nat) (hn : n < 18446744073709551616) (w : World) :
    Calls Try.prog 32 #[.int .u64 n] w fun e w' => e = .returned (.int .i64 (bitLen n : Nat)) ∧ w' = w :=
  (Try.bits_Len64 n w (by omega) (by omega)).mono (by
    rintro e w' ⟨rfl, rfl⟩
    refine ⟨?_, rfl⟩
    rw [Int.toNat_natCast, Lib.bitLen, bits_same 64 n hn])

/-- The digits of a number from one place down: k of them. -/
theorem lowL_take (n k : Nat) (h : k ≤ (lowL n).length) : ∀ x, (lowL n).length = k + x → (lowL n).reverse.take x ++ ((List.range k).map fun i => n / 256 ^ i % 256).reverse = (lowL n).reverse := by
  intro x hx
  have e : ((List.range k).map fun i => n / 256 ^ i % 256) = (lowL n).take k := by
    apply List.ext_getElem?
    intro i
    by_cases hi : i < k
    · have := lowL_at n i
      simp [List.getD, List.getElem?_eq_getElem (show i < (lowL n).length by omega)] at this
      simp [hi, this, List.getElem?_eq_getElem (show i < (lowL n).length by omega)]
    · simp [hi]; omega
  rw [e]
  conv => rhs; rw [← List.take_append_drop k (lowL n), List.reverse_append]
  congr 1
  rw [List.take_reverse]
  congr 2
  omega

theorem take_step (n k x : Nat) (hx : (lowL n).length = k + 1 + x) : (lowL n).reverse.take x ++ [n / 256 ^ k % 256] = (lowL n).reverse.take (x + 1) := by
  have hlt : x < (lowL n).reverse.length := by simp; omega
  rw [List.take_add_one, List.getElem?_eq_getElem hlt, List.getElem_reverse]
  have := lowL_at n k
  have hk : k < (lowL n).length := by omega
  simp only [List.getD, List.getElem?_eq_getElem hk, Option.getD_some] at this
  rw [← this]
  simp
  congr 1
  omega

set_option maxRecDepth 100000 in
set_option maxHeartbeats 1000000 in
theorem key_walk (n : Nat) (hn : n < 18446744073709551616) (w : World) :
    Calls Try.prog 27 #[.int .u64 n] w fun e w' => e = .returned (.string (bs (keyL n))) ∧ Kept w w' := by
  obtain ⟨i0, hi, hz0, hz1, hz2⟩ := info_parts info5
  have hc := lowL_count n
  have h8 := lowL_eight n hn
  have hk8 : keyL n = (lowL n).length :: (lowL n).reverse := rfl
  have H0 : Hid (∀ k x, (lowL n).length = k + 1 + x → (lowL n).reverse.take x ++ [n / 256 ^ k % 256] = (lowL n).reverse.take (x + 1)) := take_step n
  have H1 : Hid (keyL n = (lowL n).length :: (lowL n).reverse.take (lowL n).length) := by rw [hk8, List.take_of_length_le (by simp)]; exact rfl
  clear hk8
  have hr : (lowL n).reverse.length = (lowL n).length := by simp
  generalize hL : lowL n = l at *
  generalize hc' : l.length = c at *
  generalize hB : bitLen n = b at *
  have hb : b < 65 := by omega
  have hcI : ((b : Int) + 7) / 8 = (c : Int) := by omega
  generalize hK : keyL n = kl at *
  generalize l.reverse = r at *
  have HR : Hid (r.length = c) := hr
  have HC : Hid (((b : Int) + 7) / 8 = (c : Int)) := hcI
  have HB : Hid (bitLen n = b) := hB
  clear hL hc' hr hc hK hB hcI
  go_enter Try.func27, Try.ntmps27
  go_wp2_with (go_at_call 32; refine (len64_walk n hn _).mono ?_; rintro e w ⟨rfl, rfl⟩; rw [HB.out])
  go_loopg [4, 5] c (fun g v at_ wx => ∃ done : List Nat, done = c :: r.take (c - g) ∧ g ≤ c ∧ at_ = .int .i64 ((g : Int) - 1) ∧ wx.ownsRow w.heap.size 5 1 v done.length (cellsOf done) ∧ Kept w wx)
  case atStart =>
    rw [HC.out]
    refine ⟨[c], by simp, Nat.le_refl _, rfl, ?_, (Kept.refl w).alloc _⟩
    exact World.ownsRow_lit w #[.int .u8 (c : Int)] 1 (Nat.le_refl _) (by decide) rfl
  case round =>
    obtain ⟨done, hd, hgc, rfl, hown, hk⟩ := hrel
    have hdl : done.length ≤ 9 := by rw [hd]; simp; have := HR.out; omega
    have HD : Hid (done = c :: r.take (c - gk)) := hd
    clear hd
    cases gk with
    | zero =>
      have tx := own_text hown
      clear hown
      go_wp2
      go_ret
      refine ⟨?_, hk⟩
      rw [H1.out, HD.out]; rfl
    | succ g =>
      obtain ⟨p, cap, rfl⟩ := owns_shape hown
      have HO : Hid (wr.ownsRow w.heap.size 5 1 (.slice p done.length cap) done.length (cellsOf done)) := hown
      clear hown
      have e1 : (n : Int) / 2 ^ (8 * g) % 256 = ((n / 256 ^ g % 256 : Nat) : Int) := by
        have : (256 : Nat) ^ g = 2 ^ (8 * g) := by rw [Nat.pow_mul]
        rw [this]; simp
      go_wp2_with (at_builtin; refine wpList_append_own _ rfl _ _ 71 rfl w.heap.size 5 i0 (.int .u8 0) 1 1 Try.underlying71 hi hz0 hz1 hz2 rfl (by decide) (.slice p done.length cap) done.length (cellsOf done) rfl ?c0 _ 1 1 [.int .u8 ((n / 256 ^ g % 256 : Nat) : Int)] rfl rfl ?c1 ?c2 ?c3 ?c4 ?c5 ?_)
      case c0 => exact HO.out.alloc _
      case c1 => exact one_cell _ _ _
      case c2 => exact one_one _ _
      case c3 => unfold maxLen; omega
      case c4 => omega
      case c5 => have := hk.size; simp; omega
      intro v' w1 hown1 hgrow _
      have hk1 : Kept w w1 := below_own hk HO.out ((Kept.refl wr).alloc _) hgrow
      clear hgrow hi hz0 hz1 hz2
      have H2 : Hid (w1.ownsRow w.heap.size 5 1 v' (done.length + 1) (cellsOf done ++ [.int .u8 ((n / 256 ^ g % 256 : Nat) : Int)])) := hown1
      clear hown1 e1
      go_wp2
      go_roundg g
      case measure => omega
      case rel =>
        have e2 : done ++ [n / 256 ^ g % 256] = c :: r.take (c - g) := by
          have := H0.out g (c - (g + 1)) (by omega)
          rw [HD.out, List.cons_append, this, show c - (g + 1) + 1 = c - g by omega]
        refine ⟨done ++ [n / 256 ^ g % 256], e2, by omega, by go_num, ?_, hk1⟩
        have := H2.out
        simpa [cellsOf] using this

end Go.Proofs.Ytabbfoaojmhajaa.N
