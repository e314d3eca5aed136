/- Plain words: texts of a program: words of types, signs, digits, expressions, statements, names with types, functions, programs. No condition but those that each row names. -/
import Derived.Test.YtgdafolidifdoaaDoorRows
import Derived.WalkKit
import Derived.ProofKit
import Derived.Lib.ItoaLen
import Derived.Lib.Join
namespace Go.Proofs.YtgdafolidifdoaaDoor.Tp

theorem lsz (l : List UInt8) : (⟨l.toArray⟩ : ByteArray).size = l.length := rfl
/-- The text that has nothing. -/
def em : ByteArray := ⟨#[]⟩
theorem em_app (a : ByteArray) : em ++ a = a := ByteArray.empty_append
theorem app_em (a : ByteArray) : a ++ em = a := ByteArray.append_empty
theorem em_size : em.size = 0 := rfl

/-- A type's word, an operation's sign, a number's digits. -/
def typ (t : Int) : ByteArray := if t = 1 then ⟨#[105, 110, 116]⟩ else if t = 2 then ⟨#[114, 101, 102]⟩ else if t = 3 then ⟨#[102, 117, 110]⟩ else ⟨#[]⟩
def sgn (o : Int) : ByteArray := if o = 1 then ⟨#[43]⟩ else if o = 2 then ⟨#[45]⟩ else if o = 3 then ⟨#[42]⟩ else if o = 4 then ⟨#[60]⟩ else if o = 5 then ⟨#[61, 61]⟩ else ⟨#[]⟩
def dig (n : Int) : ByteArray := ⟨(Lib.itoa n).toArray⟩
theorem typ_size (t : Int) : (typ t).size ≤ 3 := by unfold typ; (repeat' split) <;> simp only [lsz, List.length_cons, List.length_nil] <;> omega
theorem sgn_size (t : Int) : (sgn t).size ≤ 2 := by unfold sgn; (repeat' split) <;> simp only [lsz, List.length_cons, List.length_nil] <;> omega
/-- A number of 64 bits. -/
def I64 (n : Int) : Prop := -9223372036854775808 ≤ n ∧ n ≤ 9223372036854775807
theorem dig_size {n : Int} (h : I64 n) : (dig n).size ≤ 21 := Lib.itoa_length_le n h.1 h.2
theorem typ_em {t : Int} : (typ t).size = 0 ↔ ¬ (t = 1 ∨ t = 2 ∨ t = 3) := by
  constructor
  · rintro h (rfl | rfl | rfl) <;> exact absurd h (by decide)
  · intro h
    unfold typ
    rw [if_neg (by omega), if_neg (by omega), if_neg (by omega)]; rfl

/-- Names, a comma and a space between. -/
def lst : List ByteArray → ByteArray
  | [] => ⟨#[]⟩
  | [x] => x
  | x :: y :: r => x ++ ⟨#[44, 32]⟩ ++ lst (y :: r)
theorem lst_snoc (x : ByteArray) : ∀ (l : List ByteArray), l ≠ [] → lst (l ++ [x]) = lst l ++ ⟨#[44, 32]⟩ ++ x
  | [], h => absurd rfl h
  | [y], _ => rfl
  | y :: z :: r, _ => by
    show y ++ ⟨#[44, 32]⟩ ++ lst ((z :: r) ++ [x]) = y ++ ⟨#[44, 32]⟩ ++ lst (z :: r) ++ ⟨#[44, 32]⟩ ++ x
    rw [lst_snoc x (z :: r) (by simp)]
    simp only [ByteArray.append_assoc]
/-- So many bytes in all. -/
def tot (l : List ByteArray) : Nat := (l.map ByteArray.size).sum
theorem lst_size : ∀ (l : List ByteArray), (lst l).size ≤ tot l + 2 * l.length
  | [] => by simp only [lst, lsz, tot, List.map_nil, List.sum_nil, List.length_nil]; omega
  | [x] => by simp only [lst, tot, List.map_cons, List.map_nil, List.sum_cons, List.sum_nil, List.length_cons, List.length_nil]; omega
  | x :: y :: r => by
    have h := lst_size (y :: r)
    simp only [lst, ByteArray.size_append, lsz, tot, List.map_cons, List.sum_cons, List.length_cons, List.length_nil] at *
    omega
theorem lst_take_le : ∀ (l : List ByteArray) (i : Nat), (lst (l.take i)).size ≤ (lst l).size
  | [], i => by simp
  | [x], 0 => by simp [lst]; exact Nat.zero_le _
  | [x], i + 1 => by simp
  | x :: y :: r, 0 => by simp [lst]; exact Nat.zero_le _
  | x :: y :: r, 1 => by
    show x.size ≤ (x ++ ⟨#[44, 32]⟩ ++ lst (y :: r)).size
    simp only [ByteArray.size_append]; omega
  | x :: y :: r, i + 2 => by
    have := lst_take_le (y :: r) (i + 1)
    show (x ++ ⟨#[44, 32]⟩ ++ lst ((y :: r).take (i + 1))).size ≤ (x ++ ⟨#[44, 32]⟩ ++ lst (y :: r)).size
    simp only [ByteArray.size_append]; omega
theorem lst_next {l : List ByteArray} {i : Nat} {x : ByteArray} (h : l[i]? = some x) : lst (l.take (i + 1)) = if i = 0 then x else lst (l.take i) ++ ⟨#[44, 32]⟩ ++ x := by
  have hl := (List.getElem?_eq_some_iff.1 h).1
  have e : l.take (i + 1) = l.take i ++ [x] := by rw [List.take_add_one, h]; rfl
  rw [e]
  by_cases h0 : i = 0
  · subst h0; rw [if_pos rfl]; simp [lst]
  · rw [if_neg h0, lst_snoc x]
    intro h1
    have := congrArg List.length h1
    rw [List.length_take, List.length_nil] at this
    omega
/-- As the library's words have it. -/
theorem lst_join : ∀ (l : List ByteArray), (lst l).data.toList = Lib.join (l.map (·.data.toList)) [44, 32]
  | [] => rfl
  | [x] => by rw [List.map_cons, List.map_nil, Lib.join_one]; rfl
  | x :: y :: r => by
    show (x ++ ⟨#[44, 32]⟩ ++ lst (y :: r)).data.toList = _
    rw [ByteArray.data_append, ByteArray.data_append, Array.toList_append, Array.toList_append, lst_join (y :: r)]
    rw [List.map_cons (l := y :: r), Lib.join_cons, List.map_cons, Lib.join_cons]
    simp [Lib.joinTail]
theorem join_lst (l : List ByteArray) : (⟨(Lib.join (l.map (·.data.toList)) [44, 32]).toArray⟩ : ByteArray) = lst l := by
  rw [← lst_join]

/-- An expression. -/
structure Ex where
  k : Int
  a : ByteArray
  b : ByteArray
  op : Int
  n : Int
  args : List ByteArray
def cal (e : Ex) : ByteArray := e.a ++ ⟨#[40]⟩ ++ lst e.args ++ ⟨#[41]⟩
/-- What the reference lists, by kinds. -/
def exl (e : Ex) : List ByteArray := [⟨#[]⟩, dig e.n, ⟨#[110, 117, 108, 108]⟩, e.a, ⟨#[64]⟩ ++ e.a, e.a ++ ⟨#[46]⟩ ++ e.b, ⟨#[110, 101, 119]⟩, ⟨#[38]⟩ ++ e.a, e.a ++ ⟨#[32]⟩ ++ sgn e.op ++ ⟨#[32]⟩ ++ e.b, e.a ++ ⟨#[32]⟩ ++ sgn e.op ++ ⟨#[32]⟩ ++ dig e.n, e.a ++ ⟨#[40]⟩ ++ lst e.args ++ ⟨#[41]⟩, ⟨#[42]⟩ ++ e.a ++ ⟨#[40]⟩ ++ lst e.args ++ ⟨#[41]⟩]
def ex (e : Ex) : ByteArray :=
  if e.k = 1 then dig e.n else if e.k = 2 then ⟨#[110, 117, 108, 108]⟩ else if e.k = 3 then e.a else if e.k = 4 then ⟨#[64]⟩ ++ e.a else if e.k = 5 then e.a ++ ⟨#[46]⟩ ++ e.b
  else if e.k = 6 then ⟨#[110, 101, 119]⟩ else if e.k = 7 then ⟨#[38]⟩ ++ e.a else if e.k = 8 then e.a ++ ⟨#[32]⟩ ++ sgn e.op ++ ⟨#[32]⟩ ++ e.b else if e.k = 9 then e.a ++ ⟨#[32]⟩ ++ sgn e.op ++ ⟨#[32]⟩ ++ dig e.n
  else if e.k = 10 then cal e else if e.k = 11 then ⟨#[42]⟩ ++ cal e else ⟨#[]⟩
theorem ex_out {e : Ex} (h : e.k < 1 ∨ 11 < e.k) : ex e = ⟨#[]⟩ := by
  unfold ex
  iterate 11 rw [if_neg (by omega)]
theorem exl_at {e : Ex} {i : Nat} (h : e.k = (i : Nat)) (hi : i < 12) : (exl e)[i]? = some (ex e) := by
  have : i = 0 ∨ i = 1 ∨ i = 2 ∨ i = 3 ∨ i = 4 ∨ i = 5 ∨ i = 6 ∨ i = 7 ∨ i = 8 ∨ i = 9 ∨ i = 10 ∨ i = 11 := by omega
  unfold ex exl cal
  rcases this with rfl | rfl | rfl | rfl | rfl | rfl | rfl | rfl | rfl | rfl | rfl | rfl <;> rw [h] <;> simp [ByteArray.append_assoc]
/-- Names are short, numbers of 64 bits. -/
structure Sx (e : Ex) : Prop where
  k : I64 e.k
  a : e.a.size ≤ 6
  b : e.b.size ≤ 6
  op : I64 e.op
  n : I64 e.n
  args : e.args.length ≤ 3 ∧ ∀ x ∈ e.args, x.size ≤ 6
theorem tot_le {m : Nat} : ∀ (l : List ByteArray), (∀ x ∈ l, x.size ≤ m) → tot l ≤ m * l.length
  | [], _ => by simp [tot]
  | x :: r, h => by
    have h1 := tot_le r (fun y hy => h y (by simp [hy]))
    have h2 := h x (by simp)
    unfold tot at h1 ⊢
    simp only [List.map_cons, List.sum_cons, List.length_cons, Nat.mul_add, Nat.mul_one]
    omega
theorem Sx.lst {e : Ex} (h : Sx e) : (Tp.lst e.args).size ≤ 24 := by
  have h1 := lst_size e.args
  have h2 := tot_le e.args h.args.2
  have h3 := h.args.1
  omega
theorem Sx.ex {e : Ex} (h : Sx e) : (Tp.ex e).size ≤ 40 := by
  have h1 := h.a
  have h2 := h.b
  have h3 := dig_size h.n
  have h4 := sgn_size e.op
  have h5 := h.lst
  have key : ∀ (c : Prop) [Decidable c] (x y : ByteArray), x.size ≤ 40 → y.size ≤ 40 → (if c then x else y).size ≤ 40 := fun c _ x y h1 h2 => by
    by_cases hc : c
    · rw [if_pos hc]; exact h1
    · rw [if_neg hc]; exact h2
  unfold Tp.ex cal
  (repeat' apply key) <;> (try simp only [ByteArray.size_append, lsz, List.length_cons, List.length_nil]) <;> omega
end Go.Proofs.YtgdafolidifdoaaDoor.Tp
