/- What Push, Pop, Len and Has of a queue do, in plain words. Conditions: those that each row names. -/
import Derived.Test.YtabbfoaojmhajaaQN
namespace Go.Proofs.Ytabbfoaojmhajaa.Q
open Go.ChangeShapes Go.WideShapes Go.ChangeAt Go.RowKit
open N (Kept bs numL keyL Small Rd On)

/-- A queue in memory, of what waits in it. -/
structure Qx (w : World) (B a b m : Nat) (nm l : List Nat) (f : ByteArray → Option ByteArray) : Prop where
  s : Qs w B a b m nm f
  f : Qf nm l f
  len : l.length ≤ 300
theorem Qx.kept {w w' : World} {B a b m : Nat} {nm l : List Nat} {f : ByteArray → Option ByteArray} (h : Qx w B a b m nm l f) (k : Kept w w') : Qx w' B a b m nm l f := ⟨h.s.kept k, h.f, h.len⟩
theorem Qx.load {w : World} {B a b m : Nat} {nm l : List Nat} {f : ByteArray → Option ByteArray} (h : Qx w B a b m nm l f) : LoadSays w a (l.length : Nat) (fst0 l : Nat) (lst l : Nat) (hd2 l : Nat) :=
  fun _ k => (h.s.kept k).load h.f (by have := h.len; omega)
theorem Qx.yes {w : World} {B a b m : Nat} {nm l : List Nat} {f : ByteArray → Option ByteArray} (h : Qx w B a b m nm l f) {n : Nat} (hn : n ∈ l) : ∃ v : Nat, BehindSays w a (n : Nat) (l.length : Nat) (fst0 l : Nat) (lst l : Nat) (hd2 l : Nat) (v : Nat) true := by
  obtain ⟨v, hv⟩ := nxt_some hn
  refine ⟨v, fun W k => ?_⟩
  obtain ⟨v', hv', hc⟩ := (h.s.kept k).behind h.f n hn (fst0 l) (hd2 l)
  rw [hv] at hv'
  injection hv' with hv'
  subst hv'
  exact hc
theorem Qx.no {w : World} {B a b m : Nat} {nm l : List Nat} {f : ByteArray → Option ByteArray} (h : Qx w B a b m nm l f) {n : Nat} (hn : n ∉ l) (h64 : n < 18446744073709551616) : BehindSays w a (n : Nat) (l.length : Nat) (fst0 l : Nat) (lst l : Nat) (hd2 l : Nat) 0 false := fun W k =>
  behind_none (h.s.kept k) n h64 _ _ _ _ (by rw [h.f.item n h64, nxt_none hn]; rfl)
/-- What a call leaves. -/
structure Aft (w w' : World) (B a b m : Nat) (nm l : List Nat) (f : ByteArray → Option ByteArray) : Prop where
  out : ∃ m' f', m' ≤ m + 3 ∧ Kv w' B b m' f' ∧ Qf nm l f' ∧ ∀ k, ¬ Ow nm k → f' k = f k
  vn : Vn B w w'
theorem Qx.same {w w' : World} {B a b m : Nat} {nm l : List Nat} {f : ByteArray → Option ByteArray} (h : Qx w B a b m nm l f) (k : Kept w w') : Aft w w' B a b m nm l f :=
  ⟨⟨m, f, by omega, (h.s.kept k).kv, h.f, fun _ _ => rfl⟩, Vn.of k h.s.base⟩
/-- A line with one more. -/
def psh (l : List Nat) (n : Nat) : List Nat := if n ∈ l then l else l ++ [n]

theorem Qx.push {w : World} {B a b m : Nat} {nm l : List Nat} {f : ByteArray → Option ByteArray} (h : Qx w B a b m nm l f) (hm : m ≤ 900) (n : Nat) (hn : n < 4611686018427387904) :
    Calls Try.prog 10 #[.pointer (some ⟨a, 0, none⟩), .int .u64 (n : Nat)] w fun e w' => e = .returned (.tuple #[.bool (!decide (n ∈ l)), .int .i64 0]) ∧ Aft w w' B a b m nm (psh l n) f := by
  by_cases hi : n ∈ l
  · obtain ⟨v, hv⟩ := h.yes hi
    refine (push_no _ _ _ _ _ _ _ h.load hv (.inl rfl)).mono ?_
    rintro e w' ⟨rfl, k⟩
    rw [show psh l n = l from if_pos hi]
    exact ⟨by simp [hi], h.same k⟩
  · have hp := h.f.push hn hi
    have hll := h.f.lstlt
    have fin : ∀ (w' : World) (e : Ending), (e = .returned (.tuple #[.bool true, .int .i64 0]) ∧ (∃ m', m' ≤ m + 3 ∧ Kv w' B b m' (pushF nm l n f)) ∧ Vn B w w') → e = .returned (.tuple #[.bool (!decide (n ∈ l)), .int .i64 0]) ∧ Aft w w' B a b m nm (psh l n) f := by
      rintro w' e ⟨rfl, ⟨m', hm', kv⟩, v⟩
      rw [show psh l n = l ++ [n] from if_neg hi]
      exact ⟨by simp [hi], ⟨m', _, hm', kv, hp, fun k hk => push_frame hn hll f hk⟩, v⟩
    by_cases hl : l = []
    · subst hl
      refine (push_yes (f2 := put f (bs (nm ++ keyL n)) (bs (numL 0))) h.s hm n (by omega) _ _ _ _ 1 (n : Nat) (n : Nat) h.load (h.no hi (by omega)) (fun W m1 q1 => ?_) (fun W m2 q2 => ?_)).mono fun e w' he => fin w' e he
      · refine (lengthen_nil a _ _ _ _ W).mono ?_
        rintro e w' ⟨rfl, k⟩
        exact ⟨rfl, ⟨m1, by omega, q1.kv.kept k⟩, Vn.of k q1.base⟩
      · exact save_some q2 1 n n 0 (by omega) (by omega) (by omega) (by omega)
    · have hl0 : l.length ≠ 0 := fun e => hl (List.length_eq_zero_iff.1 e)
      have hlen := h.len
      have hpf : pushF nm l n f = put (put (put f (bs (nm ++ keyL n)) (bs (numL 0))) (bs (nm ++ keyL (lst l))) (bs (numL (n + 1)))) (bs nm) (bs (numL (l.length + 1) ++ (numL (fst0 l) ++ numL n))) := by
        unfold pushF
        rw [if_neg hl]
        unfold lineL
        rw [lst_snoc, List.length_append]
        cases l with
        | nil => exact absurd rfl hl
        | cons x r => rfl
      have hff : fst0 l < 4611686018427387904 := by
        cases l with
        | nil => exact absurd rfl hl
        | cons x r => exact h.f.small x (by simp)
      rw [hpf] at fin
      refine (push_yes (f2 := put (put f (bs (nm ++ keyL n)) (bs (numL 0))) (bs (nm ++ keyL (lst l))) (bs (numL (n + 1)))) h.s hm n (by omega) _ _ _ _ ((l.length + 1 : Nat) : Int) (fst0 l : Nat) (n : Nat) h.load (h.no hi (by omega)) (fun W m1 q1 => ?_) (fun W m2 q2 => ?_)).mono fun e w' he => fin w' e he
      · exact lengthen_cons q1 l.length (fst0 l) (lst l) (hd2 l : Nat) n (l.length + 1) (n + 1) rfl rfl hl0 (by omega) (by omega) (by omega)
      · exact save_some q2 (l.length + 1) (fst0 l) n 0 (by omega) (by omega) (by omega) (by omega)

theorem Qx.pop {w : World} {B a b m : Nat} {nm l : List Nat} {f : ByteArray → Option ByteArray} (h : Qx w B a b m nm l f) (hm : m ≤ 900) :
    Calls Try.prog 12 #[.pointer (some ⟨a, 0, none⟩)] w fun e w' => e = .returned (.tuple #[.int .u64 (fst0 l : Nat), .bool (!l.isEmpty), .int .i64 0]) ∧ Aft w w' B a b m nm l.tail f := by
  match l, h with
  | [], h =>
    refine (pop_no _ _ _ h.load).mono ?_
    rintro e w' ⟨rfl, k⟩
    exact ⟨rfl, h.same k⟩
  | x :: r, h =>
    have hx := h.f.small x (by simp)
    have hp := h.f.pop
    have hlen := h.len
    have fin : ∀ (w' : World) (e : Ending), (e = .returned (.tuple #[.int .u64 (x : Nat), .bool true, .int .i64 0]) ∧ (∃ m', m' ≤ m + 3 ∧ Kv w' B b m' (popF nm x r f)) ∧ Vn B w w') → e = .returned (.tuple #[.int .u64 (fst0 (x :: r) : Nat), .bool (!(x :: r).isEmpty), .int .i64 0]) ∧ Aft w w' B a b m nm (x :: r).tail f := by
      rintro w' e ⟨rfl, ⟨m', hm', kv⟩, v⟩
      exact ⟨rfl, ⟨m', _, hm', kv, hp, fun k hk => pop_frame hx f hk⟩, v⟩
    have h0 : ((((x :: r).length : Nat) : Int) == 0) = false := by simp; omega
    by_cases hr : r = []
    · subst hr
      have hpf : popF nm x [] f = del (del f (bs (nm ++ keyL x))) (bs nm) := by unfold popF; rw [if_pos rfl]
      rw [hpf] at fin
      refine (pop_yes h.s hm x (by omega) _ _ _ 0 0 0 h0 h.load (fun W => ?_) (fun W m2 q2 => ?_)).mono fun e w' he => fin w' e he
      · exact shorten_nil _ _ _ W
      · refine (save_none q2 0 0 0).mono ?_
        rintro e w' ⟨rfl, ⟨m', hm', kv⟩, v⟩
        exact ⟨rfl, ⟨m', by omega, kv⟩, v⟩
    · obtain ⟨y, s, rfl⟩ : ∃ y s, r = y :: s := by
        cases r with
        | nil => exact absurd rfl hr
        | cons y s => exact ⟨y, s, rfl⟩
      have hy := h.f.small y (by simp)
      have hll := h.f.lstlt
      rw [lst_tail x hr] at hll
      have hpf : popF nm x (y :: s) f = put (del f (bs (nm ++ keyL x))) (bs nm) (bs (numL (y :: s).length ++ (numL y ++ numL (lst (y :: s))))) := by unfold popF; rw [if_neg (by simp)]; rfl
      rw [hpf] at fin
      simp only [List.length_cons] at hlen
      refine (pop_yes h.s hm x (by omega) _ _ _ ((y :: s).length : Nat) (y : Nat) (lst (y :: s) : Nat) h0 h.load (fun W => ?_) (fun W m2 q2 => ?_)).mono fun e w' he => fin w' e he
      · refine shorten_cons _ _ _ _ _ _ ?_ ?_ ?_ W
        · rw [IntKind.wrap_u64]; simp only [List.length_cons]; omega
        · show IntKind.u64.wrap (((y + 1 : Nat) : Int) - 1) = _
          rw [IntKind.wrap_u64]; omega
        · show (((y + 1 : Nat) : Int) == 0) = false
          simp; omega
      · exact save_some q2 (y :: s).length y (lst (y :: s)) 0 (by simp) (by simp only [List.length_cons]; omega) (by omega) (by omega)

theorem Qx.qlen {w : World} {B a b m : Nat} {nm l : List Nat} {f : ByteArray → Option ByteArray} (h : Qx w B a b m nm l f) :
    Calls Try.prog 13 #[.pointer (some ⟨a, 0, none⟩)] w fun e w' => e = .returned (.tuple #[.int .i64 (l.length : Nat), .int .i64 0]) ∧ Kept w w' :=
  qlen_walk _ _ _ _ (by have := h.len; rw [IntKind.wrap_i64]; omega) h.load
theorem Qx.qhas {w : World} {B a b m : Nat} {nm l : List Nat} {f : ByteArray → Option ByteArray} (h : Qx w B a b m nm l f) (n : Nat) (h64 : n < 18446744073709551616) :
    Calls Try.prog 14 #[.pointer (some ⟨a, 0, none⟩), .int .u64 (n : Nat)] w fun e w' => e = .returned (.tuple #[.bool (decide (n ∈ l)), .int .i64 0]) ∧ Kept w w' := by
  by_cases hi : n ∈ l
  · obtain ⟨v, hv⟩ := h.yes hi
    rw [decide_eq_true hi]
    exact qhas_walk _ _ _ _ _ _ _ h.load hv
  · rw [decide_eq_false hi]
    exact qhas_walk _ _ _ _ _ _ _ h.load (h.no hi h64)
/-- A number that is too great. -/
theorem Qx.great {w : World} {B a b m : Nat} {nm : List Nat} {f : ByteArray → Option ByteArray} (h : Qx w B a b m nm [] f) (n : Nat) (hn : 4611686018427387904 < n) (h64 : n < 18446744073709551616) :
    Calls Try.prog 10 #[.pointer (some ⟨a, 0, none⟩), .int .u64 (n : Nat)] w fun e w' => e = .returned (.tuple #[.bool false, .int .i64 0]) ∧ Kept w w' :=
  push_no _ _ _ _ _ _ _ h.load (h.no (by simp) h64) (.inr (by omega))
end Go.Proofs.Ytabbfoaojmhajaa.Q
