/- Plain words: statements, declarations, functions, and how they are printed. No condition but those that each row names. -/
import Derived.Test.YtgdafolidifdoaaDoorIG
import Derived.Deep.Trees
namespace Go.Proofs.YtgdafolidifdoaaDoor.Tp
open Go.ChangeShapes Go.WideShapes Go.ChangeAt Go.RowKit
open Go.Deep (BT)

/-- A statement but for its blocks. -/
structure Lb where
  k : Int
  pos : Int
  t : ByteArray
  fd : ByteArray
  fr : ByteArray
  e : Ex
def lb0 : Lb := ⟨0, 0, ⟨#[]⟩, ⟨#[]⟩, ⟨#[]⟩, ⟨0, ⟨#[]⟩, ⟨#[]⟩, 0, 0, []⟩⟩
def lenB : BT Lb → Nat
  | .nil => 0
  | .node _ _ _ _ r => lenB r + 1
def szB : BT Lb → Nat
  | .node _ _ _ (.node _ _ _ bo el) r => szB bo + szB el + szB r + 1
  | .node _ _ _ .nil r => szB r + 1
  | .nil => 0
def dpB : BT Lb → Nat
  | .node _ _ _ (.node _ _ _ bo el) r => max (max (dpB bo + 1) (dpB el + 1)) (dpB r)
  | .node _ _ _ .nil r => dpB r
  | .nil => 0
def appB : BT Lb → BT Lb → BT Lb
  | .nil, t => t
  | .node b o l i r, t => .node b o l i (appB r t)
def okB : BT Lb → Prop
  | .node _ _ l (.node _ _ _ bo el) r => l.t.size ≤ 6 ∧ l.fd.size ≤ 6 ∧ l.fr.size ≤ 6 ∧ Sx l.e ∧ okB bo ∧ okB el ∧ okB r
  | .node _ _ _ .nil _ => False
  | .nil => True
/-- Which trees are statements: each node's left one holds the two blocks, and nothing else. -/
def cnB : BT Lb → Prop
  | .node b o _ (.node c p l bo el) r => (b = 0 ∧ o = 0 ∧ c = 0 ∧ p = 0 ∧ l = lb0) ∧ cnB bo ∧ cnB el ∧ cnB r
  | .node _ _ _ .nil _ => False
  | .nil => True
theorem cn_app : ∀ s t : BT Lb, cnB s → cnB t → cnB (appB s t)
  | .nil, _, _, h => h
  | .node _ _ _ (.node _ _ _ _ _) r, t, ⟨h1, h2, h3, h4⟩, h => ⟨h1, h2, h3, cn_app r t h4 h⟩
/-- Statements, one behind another. -/
def Sts : Type := { t : BT Lb // cnB t }
namespace Sts
def nil : Sts := ⟨.nil, trivial⟩
def one (k pos : Int) (to fd fr : ByteArray) (e : Ex) (bo el r : Sts) : Sts := ⟨.node 0 0 ⟨k, pos, to, fd, fr, e⟩ (.node 0 0 lb0 bo.1 el.1) r.1, ⟨⟨rfl, rfl, rfl, rfl, rfl⟩, bo.2, el.2, r.2⟩⟩
theorem ind_raw {motive : Sts → Prop} (h0 : motive nil) (h1 : ∀ k pos to fd fr e bo el r, motive bo → motive el → motive r → motive (one k pos to fd fr e bo el r)) : ∀ (t : BT Lb) (h : cnB t), motive ⟨t, h⟩
  | .nil, _ => h0
  | .node b o l (.node c p m bo el) r, h => by
    obtain ⟨⟨e1, e2, e3, e4, e5⟩, q1, q2, q3⟩ := h
    subst e1 e2 e3 e4 e5
    exact h1 l.k l.pos l.t l.fd l.fr l.e ⟨bo, q1⟩ ⟨el, q2⟩ ⟨r, q3⟩ (ind_raw h0 h1 bo q1) (ind_raw h0 h1 el q2) (ind_raw h0 h1 r q3)
theorem ind {motive : Sts → Prop} (nil : motive nil) (one : ∀ k pos to fd fr e bo el r, motive bo → motive el → motive r → motive (one k pos to fd fr e bo el r)) (s : Sts) : motive s := ind_raw nil one s.1 s.2
theorem cut {motive : Sts → Prop} (nil : motive nil) (one : ∀ k pos to fd fr e bo el r, motive (one k pos to fd fr e bo el r)) (s : Sts) : motive s := ind nil (fun k pos to fd fr e bo el r _ _ _ => one k pos to fd fr e bo el r) s
def len (s : Sts) : Nat := lenB s.1
def sz (s : Sts) : Nat := szB s.1
def dp (s : Sts) : Nat := dpB s.1
def app (s t : Sts) : Sts := ⟨appB s.1 t.1, cn_app s.1 t.1 s.2 t.2⟩
/-- Names are short. -/
def Ok (s : Sts) : Prop := okB s.1
theorem len_nil : nil.len = 0 := rfl
theorem len_one (k pos : Int) (to fd fr : ByteArray) (e : Ex) (bo el r : Sts) : (one k pos to fd fr e bo el r).len = r.len + 1 := rfl
theorem sz_nil : nil.sz = 0 := rfl
theorem sz_one (k pos : Int) (to fd fr : ByteArray) (e : Ex) (bo el r : Sts) : (one k pos to fd fr e bo el r).sz = bo.sz + el.sz + r.sz + 1 := by
  show szB _ = _
  rw [one, szB]; rfl
theorem dp_nil : nil.dp = 0 := rfl
theorem dp_one (k pos : Int) (to fd fr : ByteArray) (e : Ex) (bo el r : Sts) : (one k pos to fd fr e bo el r).dp = max (max (bo.dp + 1) (el.dp + 1)) r.dp := by
  show dpB _ = _
  rw [one, dpB]; rfl
theorem app_one (k pos : Int) (to fd fr : ByteArray) (e : Ex) (bo el r t : Sts) : (one k pos to fd fr e bo el r).app t = one k pos to fd fr e bo el (r.app t) := rfl
theorem nil_app (t : Sts) : nil.app t = t := rfl
theorem ok_one (k pos : Int) (to fd fr : ByteArray) (e : Ex) (bo el r : Sts) : (one k pos to fd fr e bo el r).Ok = (to.size ≤ 6 ∧ fd.size ≤ 6 ∧ fr.size ≤ 6 ∧ Sx e ∧ bo.Ok ∧ el.Ok ∧ r.Ok) := by
  show okB _ = _
  rw [one, okB]; rfl
theorem len_app (s t : Sts) : (s.app t).len = s.len + t.len := by
  induction s using ind with
  | nil => rw [nil_app, len_nil, Nat.zero_add]
  | one k pos to fd fr e bo el r _ _ ih => rw [app_one, len_one, len_one, ih]; omega
theorem len_sz (s : Sts) : s.len ≤ s.sz := by
  induction s using ind with
  | nil => exact Nat.le_refl _
  | one k pos to fd fr e bo el r _ _ ih => rw [len_one, sz_one]; omega
end Sts

/-- A statement that has no block. -/
def sml (k : Int) (to fd fr : ByteArray) (e : Ex) : ByteArray :=
  if k = 1 then to ++ ⟨#[32, 61, 32]⟩ ++ ex e else if k = 2 then ⟨#[64]⟩ ++ to ++ ⟨#[32, 61, 32]⟩ ++ fr else if k = 3 then to ++ ⟨#[46]⟩ ++ fd ++ ⟨#[32, 61, 32]⟩ ++ fr
  else if k = 6 then ⟨#[108, 111, 99, 107, 32]⟩ ++ fr else if k = 7 then ⟨#[117, 110, 108, 111, 99, 107, 32]⟩ ++ fr else if k = 8 then ⟨#[115, 112, 97, 119, 110, 32]⟩ ++ ex e
  else if k = 9 then ex e else if k = 10 then (if fr = ⟨#[]⟩ then ⟨#[114, 101, 116, 117, 114, 110]⟩ else ⟨#[114, 101, 116, 117, 114, 110, 32]⟩ ++ fr) else ⟨#[115, 107, 105, 112]⟩
theorem sml_size {k : Int} {to fd fr : ByteArray} {e : Ex} (h1 : to.size ≤ 6) (h2 : fd.size ≤ 6) (h3 : fr.size ≤ 6) (h4 : Sx e) : (sml k to fd fr e).size ≤ 60 := by
  have h5 := h4.ex
  have key : ∀ (c : Prop) [Decidable c] (x y : ByteArray), x.size ≤ 60 → y.size ≤ 60 → (if c then x else y).size ≤ 60 := fun c _ x y h1 h2 => by
    by_cases hc : c
    · rw [if_pos hc]; exact h1
    · rw [if_neg hc]; exact h2
  unfold sml
  generalize Tp.ex e = y at *
  (repeat' apply key) <;> (try simp only [ByteArray.size_append, lsz, List.length_cons, List.length_nil]) <;> omega
/-- Statements as they are printed, so far within blocks. -/
def prB : Nat → BT Lb → ByteArray
  | d, .node _ _ l (.node _ _ _ bo el) r =>
    tb d ++ (if l.k = 4 then ⟨#[105, 102, 32]⟩ ++ l.fr ++ ⟨#[32, 123, 10]⟩ ++ prB (d + 1) bo ++ tb d ++ ⟨#[125]⟩ ++ (if lenB el = 0 then ⟨#[]⟩ else ⟨#[32, 101, 108, 115, 101, 32, 123, 10]⟩ ++ prB (d + 1) el ++ tb d ++ ⟨#[125]⟩)
      else if l.k = 5 then ⟨#[119, 104, 105, 108, 101, 32]⟩ ++ l.fr ++ ⟨#[32, 123, 10]⟩ ++ prB (d + 1) bo ++ tb d ++ ⟨#[125]⟩ else sml l.k l.t l.fd l.fr l.e ++ ⟨#[59]⟩) ++ ⟨#[10]⟩ ++ prB d r
  | _, .node _ _ _ .nil _ => ⟨#[]⟩
  | _, .nil => ⟨#[]⟩
def pr (d : Nat) (s : Sts) : ByteArray := prB d s.1
theorem pr_nil (d : Nat) : pr d .nil = ⟨#[]⟩ := rfl
theorem pr_node (d : Nat) (k pos : Int) (to fd fr : ByteArray) (e : Ex) (bo el r : Sts) : pr d (.one k pos to fd fr e bo el r) =
    tb d ++ (if k = 4 then ⟨#[105, 102, 32]⟩ ++ fr ++ ⟨#[32, 123, 10]⟩ ++ pr (d + 1) bo ++ tb d ++ ⟨#[125]⟩ ++ (if el.len = 0 then ⟨#[]⟩ else ⟨#[32, 101, 108, 115, 101, 32, 123, 10]⟩ ++ pr (d + 1) el ++ tb d ++ ⟨#[125]⟩)
      else if k = 5 then ⟨#[119, 104, 105, 108, 101, 32]⟩ ++ fr ++ ⟨#[32, 123, 10]⟩ ++ pr (d + 1) bo ++ tb d ++ ⟨#[125]⟩ else sml k to fd fr e ++ ⟨#[59]⟩) ++ ⟨#[10]⟩ ++ pr d r := by
  show prB _ _ = _
  rw [Sts.one, prB]; rfl
theorem pr_size (s : Sts) : ∀ d : Nat, s.Ok → d + s.dp ≤ 10 → (pr d s).size ≤ 130 * s.sz := by
  induction s using Sts.ind with
  | nil => exact fun _ _ _ => Nat.zero_le _
  | one k pos to fd fr e bo el r ihb ihe ihr =>
    intro d ok hd
    rw [Sts.ok_one] at ok
    obtain ⟨h1, h2, h3, h4, h5, h6, h7⟩ := ok
    rw [Sts.dp_one] at hd
    have hb := ihb (d + 1) h5 (by omega)
    have he := ihe (d + 1) h6 (by omega)
    have hr := ihr d h7 (by omega)
    have hs := sml_size (k := k) h1 h2 h3 h4
    have ht := tb_size d
    have hd10 : d ≤ 10 := by omega
    rw [pr_node, Sts.sz_one]
    by_cases c4 : k = 4
    · rw [if_pos c4]
      by_cases c0 : el.len = 0
      · rw [if_pos c0]
        simp only [ByteArray.size_append, lsz, List.length_cons, List.length_nil]; omega
      · rw [if_neg c0]
        simp only [ByteArray.size_append, lsz, List.length_cons, List.length_nil]; omega
    · rw [if_neg c4]
      by_cases c5 : k = 5
      · rw [if_pos c5]
        simp only [ByteArray.size_append, lsz, List.length_cons, List.length_nil]; omega
      · rw [if_neg c5]
        simp only [ByteArray.size_append, lsz, List.length_cons, List.length_nil]; omega

/-- A declaration, a function. -/
structure Dc where
  n : ByteArray
  t : Int
  pos : Int
def dct (d : Dc) : ByteArray := d.n ++ ⟨#[58, 32]⟩ ++ typ d.t
theorem dct_size {d : Dc} (h : d.n.size ≤ 6) : (dct d).size ≤ 11 := by
  have := typ_size d.t
  unfold dct
  simp only [ByteArray.size_append, lsz, List.length_cons, List.length_nil]; omega
def dls (d : Nat) (word : ByteArray) : List Dc → ByteArray
  | [] => ⟨#[]⟩
  | x :: r => tb d ++ word ++ dct x ++ ⟨#[59]⟩ ++ ⟨#[10]⟩ ++ dls d word r
theorem dls_size (d : Nat) (word : ByteArray) (hd : d ≤ 10) (hw : word.size ≤ 10) : ∀ l : List Dc, (∀ x ∈ l, x.n.size ≤ 6) → (dls d word l).size ≤ 40 * l.length
  | [], _ => by simp only [dls, lsz, List.length_nil]; omega
  | x :: r, h => by
    have h1 := dls_size d word hd hw r (fun y hy => h y (by simp [hy]))
    have h2 := dct_size (h x (by simp))
    have h3 := tb_size d
    simp only [dls, ByteArray.size_append, lsz, List.length_cons, List.length_nil]; omega
structure Fc where
  n : ByteArray
  pos : Int
  ps : List Dc
  ret : Int
  vs : List Dc
  bo : Sts
def rtt (t : Int) : ByteArray := if t = 0 then ⟨#[]⟩ else ⟨#[58, 32]⟩ ++ typ t
theorem rtt_size (t : Int) : (rtt t).size ≤ 5 := by
  have := typ_size t
  unfold rtt
  split <;> simp only [ByteArray.size_append, lsz, List.length_cons, List.length_nil] <;> omega
def fnt (f : Fc) : ByteArray := ⟨#[102, 110, 32]⟩ ++ f.n ++ ⟨#[40]⟩ ++ lst (f.ps.map dct) ++ ⟨#[41]⟩ ++ rtt f.ret ++ ⟨#[32, 123]⟩ ++ ⟨#[10]⟩ ++ dls 1 ⟨#[118, 97, 114, 32]⟩ f.vs ++ pr 1 f.bo ++ ⟨#[125]⟩ ++ ⟨#[10]⟩
def fns : List Fc → ByteArray
  | [] => ⟨#[]⟩
  | f :: r => fnt f ++ fns r
/-- A program as it is printed. -/
def prt (g f : List Dc) (l : List Fc) : ByteArray := dls 0 ⟨#[103, 108, 111, 98, 97, 108, 32]⟩ g ++ dls 0 ⟨#[102, 105, 101, 108, 100, 32]⟩ f ++ fns l
def Dok (l : List Dc) : Prop := l.length ≤ 4 ∧ ∀ x ∈ l, x.n.size ≤ 6
theorem lst_dct {l : List Dc} (h : Dok l) : (lst (l.map dct)).size ≤ 60 := by
  have h1 := lst_size (l.map dct)
  have h2 := tot_le (m := 11) (l.map dct) (fun x hx => by obtain ⟨d, hd, rfl⟩ := List.mem_map.1 hx; exact dct_size (h.2 d hd))
  rw [List.length_map] at h1 h2
  have := h.1
  omega
structure Fok (f : Fc) : Prop where
  n : f.n.size ≤ 6
  ps : Dok f.ps
  ret : 0 ≤ f.ret ∧ f.ret ≤ 3
  vs : Dok f.vs
  bo : f.bo.Ok
  dp : f.bo.dp ≤ 5
  sz : f.bo.sz ≤ 5000
theorem fnt_size {f : Fc} (h : Fok f) : (fnt f).size ≤ 700000 := by
  have h1 := h.n
  have h2 := lst_dct h.ps
  have h3 := rtt_size f.ret
  have h4 := dls_size 1 ⟨#[118, 97, 114, 32]⟩ (by omega) (by simp only [lsz, List.length_cons, List.length_nil]; omega) f.vs h.vs.2
  have h5 := pr_size f.bo 1 h.bo (by have := h.dp; omega)
  have h6 := h.sz
  have h7 := h.vs.1
  unfold fnt
  simp only [ByteArray.size_append, lsz, List.length_cons, List.length_nil]; omega
theorem fns_size : ∀ l : List Fc, (∀ f ∈ l, Fok f) → (fns l).size ≤ 700000 * l.length
  | [], _ => by simp only [fns, lsz, List.length_nil]; omega
  | f :: r, h => by
    have h1 := fns_size r (fun y hy => h y (by simp [hy]))
    have h2 := fnt_size (h f (by simp))
    simp only [fns, ByteArray.size_append, List.length_cons]; omega

/-- How much stmts makes for a statement at most. -/
def Cst : Nat → Nat
  | 0 => 1
  | n + 1 => 2 * (10 * Cst n) + 1
end Go.Proofs.YtgdafolidifdoaaDoor.Tp
