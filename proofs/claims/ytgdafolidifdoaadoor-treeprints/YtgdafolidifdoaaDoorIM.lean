/- Plain words: statements, declarations, functions, and how they are printed; what the statements' lists make. No condition but those that each row names. -/
import Derived.Test.YtgdafolidifdoaaDoorIG
namespace Go.Proofs.YtgdafolidifdoaaDoor.Tp
open Go.ChangeShapes Go.WideShapes Go.ChangeAt Go.RowKit

/-- Statements, one behind another. -/
inductive Sts
  | nil
  | one (k pos : Int) (to fd fr : ByteArray) (e : Ex) (bo el rest : Sts)
namespace Sts
def len : Sts → Nat
  | nil => 0
  | one _ _ _ _ _ _ _ _ r => r.len + 1
def sz : Sts → Nat
  | nil => 0
  | one _ _ _ _ _ _ bo el r => bo.sz + el.sz + r.sz + 1
def dp : Sts → Nat
  | nil => 0
  | one _ _ _ _ _ _ bo el r => max (max (bo.dp + 1) (el.dp + 1)) r.dp
def app : Sts → Sts → Sts
  | nil, t => t
  | one k p to fd fr e bo el r, t => one k p to fd fr e bo el (r.app t)
/-- Names are short. -/
def Ok : Sts → Prop
  | nil => True
  | one _ _ to fd fr e bo el r => to.size ≤ 6 ∧ fd.size ≤ 6 ∧ fr.size ≤ 6 ∧ Sx e ∧ bo.Ok ∧ el.Ok ∧ r.Ok
theorem app_nil : ∀ s : Sts, s.app nil = s
  | nil => rfl
  | one k p to fd fr e bo el r => by rw [app, app_nil r]
theorem app_assoc : ∀ s t u : Sts, (s.app t).app u = s.app (t.app u)
  | nil, _, _ => rfl
  | one k p to fd fr e bo el r, t, u => by rw [app, app, app, app_assoc r t u]
theorem len_app : ∀ s t : Sts, (s.app t).len = s.len + t.len
  | nil, t => by simp [app, len]
  | one k p to fd fr e bo el r, t => by rw [app, len, len, len_app r t]; omega
theorem len_sz : ∀ s : Sts, s.len ≤ s.sz
  | nil => Nat.le_refl _
  | one _ _ _ _ _ _ bo el r => by have := len_sz r; simp only [len, sz]; omega
end Sts

/-- A statement that has no block. -/
def sml (k : Int) (to fd fr : ByteArray) (e : Ex) : ByteArray :=
  if k = 1 then to ++ ⟨#[32, 61, 32]⟩ ++ ex e else if k = 2 then ⟨#[64]⟩ ++ to ++ ⟨#[32, 61, 32]⟩ ++ fr else if k = 3 then to ++ ⟨#[46]⟩ ++ fd ++ ⟨#[32, 61, 32]⟩ ++ fr
  else if k = 6 then ⟨#[108, 111, 99, 107, 32]⟩ ++ fr else if k = 7 then ⟨#[117, 110, 108, 111, 99, 107, 32]⟩ ++ fr else if k = 8 then ⟨#[115, 112, 97, 119, 110, 32]⟩ ++ ex e
  else if k = 9 then ex e else if k = 10 then (if fr = ⟨#[]⟩ then ⟨#[114, 101, 116, 117, 114, 110]⟩ else ⟨#[114, 101, 116, 117, 114, 110, 32]⟩ ++ fr) else ⟨#[115, 107, 105, 112]⟩
theorem sml_size {k : Int} {to fd fr : ByteArray} {e : Ex} (h1 : to.size ≤ 6) (h2 : fd.size ≤ 6) (h3 : fr.size ≤ 6) (h4 : Sx e) : (sml k to fd fr e).size ≤ 60 := by
  have h5 := h4.ex
  have key : ∀ (c : Prop) [Decidable c] (x y : ByteArray), x.size ≤ 60 → y.size ≤ 60 → (if c then x else y).size ≤ 60 := fun c _ x y h1 h2 => by
    by_cases hc : c
    · rw [if_pos hc]; exact h1
    · rw [if_neg hc]; exact h2
  unfold sml
  generalize Tp.ex e = y at *
  (repeat' apply key) <;> (try simp only [ByteArray.size_append, lsz, List.length_cons, List.length_nil]) <;> omega
/-- Statements as they are printed, so far within blocks. -/
def pr : Nat → Sts → ByteArray
  | _, .nil => ⟨#[]⟩
  | d, .one k _ to fd fr e bo el r =>
    tb d ++ (if k = 4 then ⟨#[105, 102, 32]⟩ ++ fr ++ ⟨#[32, 123, 10]⟩ ++ pr (d + 1) bo ++ tb d ++ ⟨#[125]⟩ ++ (if el.len = 0 then ⟨#[]⟩ else ⟨#[32, 101, 108, 115, 101, 32, 123, 10]⟩ ++ pr (d + 1) el ++ tb d ++ ⟨#[125]⟩)
      else if k = 5 then ⟨#[119, 104, 105, 108, 101, 32]⟩ ++ fr ++ ⟨#[32, 123, 10]⟩ ++ pr (d + 1) bo ++ tb d ++ ⟨#[125]⟩ else sml k to fd fr e ++ ⟨#[59]⟩) ++ ⟨#[10]⟩ ++ pr d r
theorem pr_size : ∀ (s : Sts) (d : Nat), s.Ok → d + s.dp ≤ 10 → (pr d s).size ≤ 130 * s.sz
  | .nil, d, _, _ => by simp only [pr, lsz, List.length_nil]; omega
  | .one k p to fd fr e bo el r, d, ok, hd => by
    obtain ⟨h1, h2, h3, h4, h5, h6, h7⟩ := ok
    simp only [Sts.dp] at hd
    have hb := pr_size bo (d + 1) h5 (by omega)
    have he := pr_size el (d + 1) h6 (by omega)
    have hr := pr_size r d h7 (by omega)
    have hs := sml_size (k := k) h1 h2 h3 h4
    have ht := tb_size d
    have hd10 : d ≤ 10 := by omega
    simp only [pr, Sts.sz]
    by_cases c4 : k = 4
    · rw [if_pos c4]
      by_cases c0 : el.len = 0
      · rw [if_pos c0]
        simp only [ByteArray.size_append, lsz, List.length_cons, List.length_nil]; omega
      · rw [if_neg c0]
        simp only [ByteArray.size_append, lsz, List.length_cons, List.length_nil]; omega
    · rw [if_neg c4]
      by_cases c5 : k = 5
      · rw [if_pos c5]
        simp only [ByteArray.size_append, lsz, List.length_cons, List.length_nil]; omega
      · rw [if_neg c5]
        simp only [ByteArray.size_append, lsz, List.length_cons, List.length_nil]; omega

/-- A declaration, a function. -/
structure Dc where
  n : ByteArray
  t : Int
  pos : Int
def dct (d : Dc) : ByteArray := d.n ++ ⟨#[58, 32]⟩ ++ typ d.t
theorem dct_size {d : Dc} (h : d.n.size ≤ 6) : (dct d).size ≤ 11 := by
  have := typ_size d.t
  unfold dct
  simp only [ByteArray.size_append, lsz, List.length_cons, List.length_nil]; omega
def dls (d : Nat) (word : ByteArray) : List Dc → ByteArray
  | [] => ⟨#[]⟩
  | x :: r => tb d ++ word ++ dct x ++ ⟨#[59]⟩ ++ ⟨#[10]⟩ ++ dls d word r
theorem dls_size (d : Nat) (word : ByteArray) (hd : d ≤ 10) (hw : word.size ≤ 10) : ∀ l : List Dc, (∀ x ∈ l, x.n.size ≤ 6) → (dls d word l).size ≤ 40 * l.length
  | [], _ => by simp only [dls, lsz, List.length_nil]; omega
  | x :: r, h => by
    have h1 := dls_size d word hd hw r (fun y hy => h y (by simp [hy]))
    have h2 := dct_size (h x (by simp))
    have h3 := tb_size d
    simp only [dls, ByteArray.size_append, lsz, List.length_cons, List.length_nil]; omega
structure Fc where
  n : ByteArray
  pos : Int
  ps : List Dc
  ret : Int
  vs : List Dc
  bo : Sts
def rtt (t : Int) : ByteArray := if t = 0 then ⟨#[]⟩ else ⟨#[58, 32]⟩ ++ typ t
theorem rtt_size (t : Int) : (rtt t).size ≤ 5 := by
  have := typ_size t
  unfold rtt
  split <;> simp only [ByteArray.size_append, lsz, List.length_cons, List.length_nil] <;> omega
def fnt (f : Fc) : ByteArray := ⟨#[102, 110, 32]⟩ ++ f.n ++ ⟨#[40]⟩ ++ lst (f.ps.map dct) ++ ⟨#[41]⟩ ++ rtt f.ret ++ ⟨#[32, 123]⟩ ++ ⟨#[10]⟩ ++ dls 1 ⟨#[118, 97, 114, 32]⟩ f.vs ++ pr 1 f.bo ++ ⟨#[125]⟩ ++ ⟨#[10]⟩
def fns : List Fc → ByteArray
  | [] => ⟨#[]⟩
  | f :: r => fnt f ++ fns r
/-- A program as it is printed. -/
def prt (g f : List Dc) (l : List Fc) : ByteArray := dls 0 ⟨#[103, 108, 111, 98, 97, 108, 32]⟩ g ++ dls 0 ⟨#[102, 105, 101, 108, 100, 32]⟩ f ++ fns l
def Dok (l : List Dc) : Prop := l.length ≤ 4 ∧ ∀ x ∈ l, x.n.size ≤ 6
theorem lst_dct {l : List Dc} (h : Dok l) : (lst (l.map dct)).size ≤ 60 := by
  have h1 := lst_size (l.map dct)
  have h2 := tot_le (m := 11) (l.map dct) (fun x hx => by obtain ⟨d, hd, rfl⟩ := List.mem_map.1 hx; exact dct_size (h.2 d hd))
  rw [List.length_map] at h1 h2
  have := h.1
  omega
structure Fok (f : Fc) : Prop where
  n : f.n.size ≤ 6
  ps : Dok f.ps
  ret : 0 ≤ f.ret ∧ f.ret ≤ 3
  vs : Dok f.vs
  bo : f.bo.Ok
  dp : f.bo.dp ≤ 5
  sz : f.bo.sz ≤ 5000
theorem fnt_size {f : Fc} (h : Fok f) : (fnt f).size ≤ 700000 := by
  have h1 := h.n
  have h2 := lst_dct h.ps
  have h3 := rtt_size f.ret
  have h4 := dls_size 1 ⟨#[118, 97, 114, 32]⟩ (by omega) (by simp only [lsz, List.length_cons, List.length_nil]; omega) f.vs h.vs.2
  have h5 := pr_size f.bo 1 h.bo (by have := h.dp; omega)
  have h6 := h.sz
  have h7 := h.vs.1
  unfold fnt
  simp only [ByteArray.size_append, lsz, List.length_cons, List.length_nil]; omega
theorem fns_size : ∀ l : List Fc, (∀ f ∈ l, Fok f) → (fns l).size ≤ 700000 * l.length
  | [], _ => by simp only [fns, lsz, List.length_nil]; omega
  | f :: r, h => by
    have h1 := fns_size r (fun y hy => h y (by simp [hy]))
    have h2 := fnt_size (h f (by simp))
    simp only [fns, ByteArray.size_append, List.length_cons]; omega

/-- What stmts makes of a list. -/
def mkg : Nat → Nat → List Ev → Sts
  | _, _, [] => .nil
  | deep, i, e :: r => if i < 10 then .one (lw 4 e.m) (i : Nat) (sho e.a) (sho e.b) (sho e.a) (mx e)
      (if 0 < deep ∧ bits .and .i64 e.op 1 = 1 then mkg (deep - 1) 0 r else .nil) (if 0 < deep ∧ bits .and .i64 e.op 2 = 2 then mkg (deep - 1) 0 r else .nil) (mkg deep (i + 1) r) else .nil
def Cst : Nat → Nat
  | 0 => 1
  | n + 1 => 2 * (10 * Cst n) + 1
theorem mkg_sz : ∀ (l : List Ev) (deep i : Nat), (mkg deep i l).sz ≤ (10 - i) * Cst deep
  | [], _, _ => Nat.zero_le _
  | e :: r, deep, i => by
    rw [mkg]
    by_cases hi : i < 10
    · rw [if_pos hi]
      simp only [Sts.sz]
      have h1 := mkg_sz r deep (i + 1)
      have hc : ∀ (c : Prop) [Decidable c], (if 0 < deep ∧ c then mkg (deep - 1) 0 r else .nil : Sts).sz * 2 + 1 ≤ Cst deep := fun c _ => by
        cases deep with
        | zero => rw [if_neg (by omega)]; simp [Sts.sz, Cst]
        | succ m =>
          have h2 := mkg_sz r m 0
          split
          · rw [Nat.add_sub_cancel, Cst]; omega
          · simp only [Sts.sz, Cst]; omega
      have e1 := hc (bits .and .i64 e.op 1 = 1)
      have e2 := hc (bits .and .i64 e.op 2 = 2)
      have e3 : (10 - i) * Cst deep = (10 - (i + 1)) * Cst deep + Cst deep := by
        rw [show 10 - i = (10 - (i + 1)) + 1 by omega, Nat.add_mul, Nat.one_mul]
      omega
    · rw [if_neg hi]; exact Nat.zero_le _
theorem mkg_dp : ∀ (l : List Ev) (deep i : Nat), (mkg deep i l).dp ≤ deep + 1
  | [], _, _ => Nat.zero_le _
  | e :: r, deep, i => by
    rw [mkg]
    by_cases hi : i < 10
    · rw [if_pos hi]
      simp only [Sts.dp]
      have h1 := mkg_dp r deep (i + 1)
      have hc : ∀ (c : Prop) [Decidable c], (if 0 < deep ∧ c then mkg (deep - 1) 0 r else .nil : Sts).dp ≤ deep := fun c _ => by
        split
        · rename_i h; have := mkg_dp r (deep - 1) 0; omega
        · exact Nat.zero_le _
      have e1 := hc (bits .and .i64 e.op 1 = 1)
      have e2 := hc (bits .and .i64 e.op 2 = 2)
      omega
    · rw [if_neg hi]; exact Nat.zero_le _
theorem mkg_ok : ∀ (l : List Ev) (deep i : Nat), (∀ e ∈ l, Okv e) → (mkg deep i l).Ok
  | [], _, _, _ => trivial
  | e :: r, deep, i, h => by
    have hr : ∀ x ∈ r, Okv x := fun x hx => h x (by simp [hx])
    rw [mkg]
    by_cases hi : i < 10
    · rw [if_pos hi]
      have hc : ∀ (c : Prop) [Decidable c], (if c then mkg (deep - 1) 0 r else .nil : Sts).Ok := fun c _ => by
        split
        · exact mkg_ok r _ _ hr
        · trivial
      exact ⟨sho_size _, sho_size _, sho_size _, mx_sx (h e (by simp)), hc _, hc _, mkg_ok r deep (i + 1) hr⟩
    · rw [if_neg hi]; trivial
end Go.Proofs.YtgdafolidifdoaaDoor.Tp
