/- Joined: PBytes PWalkA PSector PNum NWPure. What is proved of the functions beneath StoreNone. Conditions: those that each row names. -/
import Derived.Test.YtifeihnhkbagpaaGreatDoorZaj
import Derived.Test.YtifeihnhkbagpaaGreatDoorRows
import Derived.WalkKit
import Derived.ProofKit
import Derived.Laws.BitsAllLaws
import Derived.Laws.MathBits
import Derived.Laws.BytesArg
namespace Go.Proofs.YtifeihnhkbagpaaGreatDoor.P

def bs (l : List Nat) : ByteArray := ⟨(l.map UInt8.ofNat).toArray⟩

theorem bs_size (l : List Nat) : (bs l).size = l.length := by simp [bs, ByteArray.size]
theorem bs_append (a b : List Nat) : bs a ++ bs b = bs (a ++ b) := by
  unfold bs; rw [ByteArray.mk_append_mk]; simp
theorem bs_extract (l : List Nat) (a b : Nat) : (bs l).extract a b = bs ((l.drop a).take (b - a)) := by
  unfold bs; rw [ByteArray.extract_mk]; simp [List.map_drop, List.map_take]
theorem bs_toList (l : List Nat) : (bs l).toList = l.map UInt8.ofNat := by
  unfold bs; exact ByteArray.toList_mk _
theorem bs_get (l : List Nat) (k : Nat) (h : k < (bs l).size) : (bs l)[k].toNat = (l.getD k 0) % 256 := by
  have h' : k < l.length := by rw [bs_size] at h; exact h
  have : (bs l)[k] = UInt8.ofNat l[k] := by
    show (bs l).data[k]'h = _
    simp [bs]
  rw [this]
  simp [List.getD, List.getElem?_eq_getElem h']

def un (s : ByteArray) : List Nat := s.data.toList.map UInt8.toNat

theorem bs_un (s : ByteArray) : bs (un s) = s := by
  unfold bs un
  simp [List.map_map, Function.comp_def]

theorem un_length (s : ByteArray) : (un s).length = s.size := by unfold un ByteArray.size; rw [List.length_map, Array.length_toList]

def Small (l : List Nat) : Prop := ∀ x ∈ l, x < 256

theorem un_small (s : ByteArray) : Small (un s) := by
  intro x hx
  simp [un] at hx
  obtain ⟨a, _, rfl⟩ := hx
  exact UInt8.toNat_lt a

theorem Small.take {l : List Nat} (h : Small l) (k : Nat) : Small (l.take k) := fun x hx => h x (List.mem_of_mem_take hx)
theorem Small.drop {l : List Nat} (h : Small l) (k : Nat) : Small (l.drop k) := fun x hx => h x (List.mem_of_mem_drop hx)
theorem Small.append {a b : List Nat} (h : Small a) (k : Small b) : Small (a ++ b) := by
  intro x hx
  rcases List.mem_append.1 hx with hx | hx
  · exact h x hx
  · exact k x hx
theorem Small.getD {l : List Nat} (h : Small l) (k : Nat) : l.getD k 0 < 256 := by
  rcases Nat.lt_or_ge k l.length with hk | hk
  · simp [List.getD, List.getElem?_eq_getElem hk]; exact h _ (List.getElem_mem hk)
  · simp [List.getD, List.getElem?_eq_none hk]

theorem map_inj : ∀ {a b : List Nat}, Small a → Small b → a.map UInt8.ofNat = b.map UInt8.ofNat → a = b := by
  intro a
  induction a with
  | nil => intro b _ _ h; cases b with
    | nil => rfl
    | cons y b => simp at h
  | cons x a ih =>
    intro b ha hb h
    cases b with
    | nil => simp at h
    | cons y b =>
      simp only [List.map_cons, List.cons.injEq] at h
      have hx := ha x (by simp)
      have hy := hb y (by simp)
      have : x = y := by
        have := congrArg UInt8.toNat h.1
        simp at this
        omega
      rw [this, ih (fun z hz => ha z (by simp [hz])) (fun z hz => hb z (by simp [hz])) h.2]

theorem bs_eq {a b : List Nat} (ha : Small a) (hb : Small b) : ((bs a).toList == (bs b).toList) = decide (a = b) := by
  rw [bs_toList, bs_toList]
  by_cases h : a = b
  · subst h; simp
  · have : a.map UInt8.ofNat ≠ b.map UInt8.ofNat := fun e => h (map_inj ha hb e)
    simp [h, this]

def fixL (n : Nat) : Nat → List Nat
  | 0 => []
  | k + 1 => (n % 256) :: fixL (n / 256) k

theorem fixL_length (k : Nat) : ∀ n, (fixL n k).length = k := by
  induction k with
  | zero => intro n; rfl
  | succ k ih => intro n; simp [fixL, ih]

theorem fixL_at (k : Nat) : ∀ n i, i < k → (fixL n k).getD i 0 = n / 256 ^ i % 256 := by
  induction k with
  | zero => intro n i h; omega
  | succ k ih =>
    intro n i h
    cases i with
    | zero => simp [fixL]
    | succ i => rw [fixL, List.getD_cons_succ, ih _ i (by omega), Nat.div_div_eq_div_mul, Nat.pow_succ, Nat.mul_comm]

theorem fixL_small (n k : Nat) : Small (fixL n k) := by
  induction k generalizing n with
  | zero => intro x hx; simp [fixL] at hx
  | succ k ih =>
    intro x hx
    rcases List.mem_cons.1 hx with rfl | hx
    · omega
    · exact ih _ x hx

theorem mod_step (n p b : Nat) : n % (p * b) = n % p + n / p % b * p := by
  rw [Nat.mod_mul, Nat.mul_comm p]

theorem or_add (a x i : Nat) (h : a < 2 ^ i) : a ||| x * 2 ^ i = a + x * 2 ^ i := by
  have := Nat.shiftLeft_add_eq_or_of_lt h x
  rw [Nat.shiftLeft_eq] at this
  rw [Nat.or_comm, ← this, Nat.add_comm]
open Go.ChangeShapes Go.WideShapes Go.ChangeAt Go.RowKit
open Chk

theorem and_one (c : Nat) (h : c < 4294967296) : bits .and .u32 (c : Int) 1 = ((c % 2 : Nat) : Int) := by
  have := u32_and_nat c 1 h (by omega)
  rw [nat_mask1] at this
  exact this

theorem xor_poly (c : Nat) (h : c < 4294967296) : bits .xor .u32 (c : Int) 3988292384 = ((c ^^^ 3988292384 : Nat) : Int) :=
  u32_xor_nat c 3988292384 h (by omega)

theorem onward_walk (c : Nat) (hc : c < 4294967296) (w : World) :
    Calls Tryz.prog 229 #[.int .u32 c] w fun e w' => e = .returned (.int .u32 (S c : Nat)) ∧ w' = w := by
  have e1 := and_one c hc
  by_cases h : c % 2 = 1
  · have hS : S c = c / 2 ^^^ 3988292384 := by unfold S; rw [if_pos h]
    have e2 := xor_poly (c / 2) (by omega)
    have t : (bits .and .u32 (c : Int) 1 != 0) = true := by rw [e1, h]; rfl
    rw [hS]; clear hS e1
    go_enter Tryz.func229, Tryz.ntmps229
    go_wp2
    go_ret
    exact ⟨by simp [← e2], rfl⟩
  · have hS : S c = c / 2 := by unfold S; rw [if_neg h]
    have t : (bits .and .u32 (c : Int) 1 != 0) = false := by rw [e1, show c % 2 = 0 by omega]; rfl
    rw [hS]; clear hS e1
    go_enter Tryz.func229, Tryz.ntmps229
    go_wp2
    go_ret
    exact ⟨by simp, rfl⟩

def byte (s : ByteArray) (k : Nat) : Nat := if h : k < s.size then s[k].toNat else 0

theorem byte_at {s : ByteArray} {k : Nat} (h : k < s.size) : s[k].toNat = byte s k := by unfold byte; rw [dif_pos h]

theorem byte_lt (s : ByteArray) (k : Nat) : byte s k < 256 := by
  unfold byte; split
  · exact UInt8.toNat_lt _
  · omega


def lowV : List Nat → Nat
  | [] => 0
  | x :: t => x + 256 * lowV t

theorem lowV_lt {l : List Nat} (h : Small l) : lowV l < 256 ^ l.length := by
  induction l with
  | nil => simp [lowV]
  | cons x t ih =>
    have h1 := h x (by simp)
    have h2 := ih (fun y hy => h y (by simp [hy]))
    simp only [lowV, List.length_cons, Nat.pow_succ]
    omega

theorem fixL_lowV {l : List Nat} (h : Small l) : fixL (lowV l) l.length = l := by
  induction l with
  | nil => rfl
  | cons x t ih =>
    have h1 := h x (by simp)
    have h2 := ih (fun y hy => h y (by simp [hy]))
    simp only [lowV, List.length_cons, fixL]
    rw [show (x + 256 * lowV t) % 256 = x by omega, show (x + 256 * lowV t) / 256 = lowV t by omega, h2]

theorem lowV_fixL (k : Nat) : ∀ n, lowV (fixL n k) = n % 256 ^ k := by
  induction k with
  | zero => intro n; simp [fixL, lowV, Nat.mod_one]
  | succ k ih =>
    intro n
    simp only [fixL, lowV]
    rw [ih, Nat.pow_succ, Nat.mul_comm (256 ^ k) 256, Nat.mod_mul]

theorem lowV_fits {n k : Nat} (h : n < 256 ^ k) : lowV (fixL n k) = n := by rw [lowV_fixL, Nat.mod_eq_of_lt h]

def chk (l : List Nat) : Nat := check (byte (bs l)) (bs l).size

theorem chk_lt (l : List Nat) : chk l < 4294967296 := check_lt (byte_lt (bs l)) _

def headL (k n g : Nat) (l : List Nat) : List Nat := fixL k 1 ++ (fixL n 4 ++ (fixL g 8 ++ (fixL l.length 2 ++ (l ++ List.replicate (237 - l.length) 0))))

def pageL (k n g : Nat) (l : List Nat) : List Nat := headL k n g l ++ fixL (chk (headL k n g l)) 4

def May (kd nm : Int) (l : List Nat) : Prop := 1 ≤ kd ∧ kd ≤ 4 ∧ 0 ≤ nm ∧ nm < 16384 ∧ l.length ≤ 237

def putL (kd nm : Int) (g : Nat) (l : List Nat) : List Nat :=
  if 1 ≤ kd ∧ kd ≤ 4 ∧ 0 ≤ nm ∧ nm < 16384 ∧ l.length ≤ 237 then pageL kd.toNat nm.toNat g l else []

theorem putL_may {kd nm : Int} {g : Nat} {l : List Nat} (h : May kd nm l) : putL kd nm g l = pageL kd.toNat nm.toNat g l := by
  unfold putL; exact if_pos h

theorem putL_not {kd nm : Int} {g : Nat} {l : List Nat} (h : ¬ May kd nm l) : putL kd nm g l = [] := by
  unfold putL; exact if_neg h

theorem headL_length (k n g : Nat) (l : List Nat) (h : l.length ≤ 237) : (headL k n g l).length = 252 := by
  simp only [headL, List.length_append, fixL_length, List.length_replicate]; omega

theorem pageL_length (k n g : Nat) (l : List Nat) (h : l.length ≤ 237) : (pageL k n g l).length = 256 := by
  simp only [pageL, List.length_append, fixL_length, headL_length k n g l h]

theorem headL_small (k n g : Nat) {l : List Nat} (h : Small l) : Small (headL k n g l) := by
  refine (fixL_small _ _).append ((fixL_small _ _).append ((fixL_small _ _).append ((fixL_small _ _).append (h.append ?_))))
  intro x hx
  rw [(List.mem_replicate.1 hx).2]; decide

theorem pageL_small (k n g : Nat) {l : List Nat} (h : Small l) : Small (pageL k n g l) := (headL_small k n g h).append (fixL_small _ _)

theorem putL_small (kd nm : Int) (g : Nat) {l : List Nat} (h : Small l) : Small (putL kd nm g l) := by
  unfold putL; split
  · exact pageL_small _ _ _ h
  · intro x hx; cases hx

theorem putL_length (kd nm : Int) (g : Nat) (l : List Nat) : (putL kd nm g l).length ≤ 256 := by
  unfold putL; split
  · next h => rw [pageL_length _ _ _ _ h.2.2.2.2]; omega
  · simp

def takeS (n : Nat) (l : List Nat) (x : Int) : List Nat × List Nat × Int := if n ≤ l.length then (l.take n, l.drop n, x) else ([], [], 2)

def Fine (l : List Nat) (x : Int) : Prop := x = 0 ∨ x = 2 ∧ l = []

theorem takeS_fine {n : Nat} {l : List Nat} {x : Int} {m l' : List Nat} {x' : Int} (h : Fine l x) (e : takeS n l x = (m, l', x')) : Fine l' x' := by
  unfold takeS at e
  split at e
  · injection e with e1 e2; injection e2 with e2 e3; subst e1 e2 e3
    rcases h with h | ⟨h, hl⟩
    · exact .inl h
    · exact .inr ⟨h, by rw [hl]; simp⟩
  · injection e with e1 e2; injection e2 with e2 e3; subst e1 e2 e3
    exact .inr ⟨rfl, rfl⟩

theorem takeS_small {n : Nat} {l : List Nat} {x : Int} {m l' : List Nat} {x' : Int} (h : Small l) (e : takeS n l x = (m, l', x')) : Small m ∧ Small l' ∧ m.length ≤ n ∧ m.length ≤ l.length ∧ l'.length ≤ l.length := by
  unfold takeS at e
  split at e
  · next hn =>
    injection e with e1 e2; injection e2 with e2 e3; subst e1 e2 e3
    exact ⟨h.take _, h.drop _, by simp; omega, by simp; omega, by simp⟩
  · injection e with e1 e2; injection e2 with e2 e3; subst e1 e2 e3
    exact ⟨fun x hx => (by cases hx), fun x hx => (by cases hx), by simp, by simp, by simp⟩

theorem takeS_ok {n : Nat} {l : List Nat} {x : Int} {m l' : List Nat} {x' : Int} (hx : x' = 0) (e : takeS n l x = (m, l', x')) : n ≤ l.length ∧ x = 0 ∧ m = l.take n ∧ l' = l.drop n := by
  unfold takeS at e
  split at e
  · next hn =>
    injection e with e1 e2; injection e2 with e2 e3
    exact ⟨hn, e3.trans hx, e1.symm, e2.symm⟩
  · injection e with e1 e2; injection e2 with e2 e3
    rw [hx] at e3; cases e3

theorem takeS_in {n : Nat} {l : List Nat} (h : n ≤ l.length) : takeS n l 0 = (l.take n, l.drop n, 0) := by unfold takeS; rw [if_pos h]

def fK (s : List Nat) : Nat := lowV (s.take 1)
def fN (s : List Nat) : Nat := lowV ((s.drop 1).take 4)
def fG (s : List Nat) : Nat := lowV ((s.drop 5).take 8)
def fC (s : List Nat) : Nat := lowV ((s.drop 13).take 2)
def fD (s : List Nat) : List Nat := (s.drop 15).take (fC s)
def said (s : List Nat) : List Nat := putL (fK s) (fN s) (fG s) (fD s)
def Okk (s : List Nat) : Prop := 15 + fC s ≤ s.length ∧ s = said s

theorem get_all {s m1 l1 m2 l2 m3 l3 m4 l4 m5 l5 : List Nat} {x1 x2 x3 x4 x5 : Int}
    (e1 : takeS 1 s 0 = (m1, l1, x1)) (e2 : takeS 4 l1 x1 = (m2, l2, x2)) (e3 : takeS 8 l2 x2 = (m3, l3, x3)) (e4 : takeS 2 l3 x3 = (m4, l4, x4)) (e5 : takeS (lowV m4) l4 x4 = (m5, l5, x5)) (h : x5 = 0) :
    15 + fC s ≤ s.length ∧ lowV m1 = fK s ∧ lowV m2 = fN s ∧ lowV m3 = fG s ∧ m5 = fD s := by
  obtain ⟨n5, h4, rfl, rfl⟩ := takeS_ok h e5
  obtain ⟨n4, h3, rfl, rfl⟩ := takeS_ok h4 e4
  obtain ⟨n3, h2, rfl, rfl⟩ := takeS_ok h3 e3
  obtain ⟨n2, h1, rfl, rfl⟩ := takeS_ok h2 e2
  obtain ⟨n1, _, rfl, rfl⟩ := takeS_ok h1 e1
  simp only [List.drop_drop, List.length_drop] at n5 n4 n3 n2 ⊢
  refine ⟨?_, rfl, rfl, rfl, rfl⟩
  have n5' : fC s ≤ _ := n5
  omega

theorem get_none {s m1 l1 m2 l2 m3 l3 m4 l4 m5 l5 : List Nat} {x1 x2 x3 x4 x5 : Int}
    (e1 : takeS 1 s 0 = (m1, l1, x1)) (e2 : takeS 4 l1 x1 = (m2, l2, x2)) (e3 : takeS 8 l2 x2 = (m3, l3, x3)) (e4 : takeS 2 l3 x3 = (m4, l4, x4)) (e5 : takeS (lowV m4) l4 x4 = (m5, l5, x5)) (h : x5 ≠ 0) :
    ¬ 15 + fC s ≤ s.length := by
  intro hs
  rw [takeS_in (by omega)] at e1
  injection e1 with a1 b1; injection b1 with b1 c1; subst a1 b1 c1
  rw [takeS_in (by simp; omega)] at e2
  injection e2 with a1 b1; injection b1 with b1 c1; subst a1 b1 c1
  rw [takeS_in (by simp; omega)] at e3
  injection e3 with a1 b1; injection b1 with b1 c1; subst a1 b1 c1
  rw [takeS_in (by simp; omega)] at e4
  injection e4 with a1 b1; injection b1 with b1 c1; subst a1 b1 c1
  simp only [List.drop_drop] at e5
  rw [takeS_in (by unfold fC at hs; simp; omega)] at e5
  injection e5 with a1 b1; injection b1 with b1 c1
  exact h c1.symm

theorem okk_iff (s : List Nat) : Okk s ↔ s.length = 256 ∧ fC s ≤ 237 ∧ said s = s := by
  constructor
  · rintro ⟨h1, h2⟩
    by_cases hm : May (fK s) (fN s) (fD s)
    · have hd : (fD s).length ≤ 237 := hm.2.2.2.2
      have hl : (fD s).length = fC s := by unfold fD; rw [List.length_take, List.length_drop]; omega
      refine ⟨?_, by omega, h2.symm⟩
      have h3 : said s = pageL _ _ _ _ := putL_may hm
      rw [h2, h3]
      exact pageL_length _ _ _ _ hd
    · have h3 : said s = [] := putL_not hm
      rw [h3] at h2
      rw [h2] at h1
      simp at h1
  · rintro ⟨h1, h2, h3⟩
    exact ⟨by omega, h3.symm⟩

theorem take_app {a b : List Nat} {n : Nat} (h : a.length = n) : (a ++ b).take n = a := by rw [← h]; simp
theorem drop_app {a b : List Nat} {n : Nat} (h : a.length = n) : (a ++ b).drop n = b := by rw [← h]; simp

theorem page_said (k n g : Nat) (l : List Nat) (hk : k < 256) (hn : n < 4294967296) (hg : g < 18446744073709551616) (hl : l.length ≤ 237) :
    fK (pageL k n g l) = k ∧ fN (pageL k n g l) = n ∧ fG (pageL k n g l) = g ∧ fC (pageL k n g l) = l.length ∧ fD (pageL k n g l) = l := by
  have e : pageL k n g l = fixL k 1 ++ (fixL n 4 ++ (fixL g 8 ++ (fixL l.length 2 ++ (l ++ (List.replicate (237 - l.length) 0 ++ fixL (chk (headL k n g l)) 4))))) := by
    unfold pageL
    conv => lhs; lhs; unfold headL
    simp only [List.append_assoc]
  generalize List.replicate (237 - l.length) 0 ++ fixL (chk (headL k n g l)) 4 = r at e
  have d1 : (pageL k n g l).drop 1 = fixL n 4 ++ (fixL g 8 ++ (fixL l.length 2 ++ (l ++ r))) := by rw [e, drop_app (fixL_length 1 k)]
  have d5 : (pageL k n g l).drop 5 = fixL g 8 ++ (fixL l.length 2 ++ (l ++ r)) := by
    rw [show 5 = 1 + 4 from rfl, ← List.drop_drop, d1, drop_app (fixL_length 4 n)]
  have d13 : (pageL k n g l).drop 13 = fixL l.length 2 ++ (l ++ r) := by
    rw [show 13 = 5 + 8 from rfl, ← List.drop_drop, d5, drop_app (fixL_length 8 g)]
  have d15 : (pageL k n g l).drop 15 = l ++ r := by
    rw [show 15 = 13 + 2 from rfl, ← List.drop_drop, d13, drop_app (fixL_length 2 _)]
  have hc : fC (pageL k n g l) = l.length := by
    unfold fC; rw [d13, take_app (fixL_length 2 _)]; exact lowV_fits (by omega)
  refine ⟨?_, ?_, ?_, hc, ?_⟩
  · unfold fK; rw [e, take_app (fixL_length 1 k)]; exact lowV_fits (by omega)
  · unfold fN; rw [d1, take_app (fixL_length 4 n)]; exact lowV_fits (by omega)
  · unfold fG; rw [d5, take_app (fixL_length 8 g)]; exact lowV_fits (by omega)
  · unfold fD; rw [hc, d15, take_app rfl]

theorem page_okk (kd nm : Int) (g : Nat) (l : List Nat) (hm : May kd nm l) (hg : g < 18446744073709551616) :
    Okk (putL kd nm g l) ∧ (fK (putL kd nm g l) : Int) = kd ∧ (fN (putL kd nm g l) : Int) = nm ∧ fG (putL kd nm g l) = g ∧ fD (putL kd nm g l) = l := by
  have e := putL_may (g := g) hm
  obtain ⟨h1, h2, h3, h4, h5⟩ := hm
  obtain ⟨a, b, c, d, f⟩ := page_said kd.toNat nm.toNat g l (by omega) (by omega) hg h5
  have a' : (fK (putL kd nm g l) : Int) = kd := by rw [e, a]; omega
  have b' : (fN (putL kd nm g l) : Int) = nm := by rw [e, b]; omega
  have c' : fG (putL kd nm g l) = g := by rw [e, c]
  have f' : fD (putL kd nm g l) = l := by rw [e, f]
  refine ⟨⟨?_, ?_⟩, a', b', c', f'⟩
  · rw [e, d, pageL_length _ _ _ _ h5]; omega
  · unfold said; rw [a', b', c', f']

theorem empty_not : ¬ Okk [] := fun h => by have := h.1; simp at this


def numF : Nat → Nat → List Nat
  | 0, _ => []
  | f + 1, n => if n < 128 then [n] else (128 + n % 128) :: numF f (n / 128)

theorem numF_same : ∀ (f g n : Nat), n < f → n < g → numF f n = numF g n := by
  intro f
  induction f with
  | zero => intro g n h; omega
  | succ f ih =>
    intro g n h1 h2
    cases g with
    | zero => omega
    | succ g =>
      rw [numF, numF]
      by_cases h : n < 128
      · rw [if_pos h, if_pos h]
      · rw [if_neg h, if_neg h, ih g (n / 128) (by omega) (by omega)]

def numL (n : Nat) : List Nat := numF (n + 1) n

theorem numL_last {n : Nat} (h : n < 128) : numL n = [n] := by rw [numL, numF, if_pos h]
theorem numL_more {n : Nat} (h : ¬ n < 128) : numL n = (128 + n % 128) :: numL (n / 128) := by
  rw [numL, numF, if_neg h, numL, numF_same n (n / 128 + 1) (n / 128) (by omega) (by omega)]

theorem numL_small (n : Nat) : Small (numL n) := by
  induction n using Nat.strongRecOn with
  | _ n ih =>
    by_cases h : n < 128
    · rw [numL_last h]; intro x hx; simp at hx; omega
    · rw [numL_more h]; intro x hx
      rcases List.mem_cons.1 hx with rfl | hx
      · omega
      · exact ih (n / 128) (by omega) x hx

theorem numL_length (k : Nat) : ∀ n, n < 128 ^ (k + 1) → (numL n).length ≤ k + 1 := by
  induction k with
  | zero => intro n h; rw [numL_last (by simpa using h)]; simp
  | succ k ih =>
    intro n h
    by_cases h1 : n < 128
    · rw [numL_last h1]; simp
    · rw [numL_more h1]
      have := ih (n / 128) (by rw [Nat.pow_succ] at h; omega)
      simp; omega

theorem numL_ten (n : Nat) (h : n < 18446744073709551616) : (numL n).length ≤ 10 := numL_length 9 n (by omega)

theorem numL_ne (n : Nat) : numL n ≠ [] := by
  by_cases h : n < 128
  · rw [numL_last h]; simp
  · rw [numL_more h]; simp

theorem numL_mod (m i c : Nat) (h : m / 128 % 128 ^ (i + 1) = m / 128 % 128 ^ i + c * 128 ^ i) : m % 128 ^ (i + 2) = m % 128 ^ (i + 1) + c * 128 ^ (i + 1) := by
  have e : ∀ k, m % 128 ^ (k + 1) = m % 128 + 128 * (m / 128 % 128 ^ k) := fun k => by
    rw [Nat.pow_succ, Nat.mul_comm (128 ^ k) 128, Nat.mod_mul]
  rw [show i + 2 = (i + 1) + 1 from rfl, e (i + 1), e i, h, Nat.pow_succ, Nat.mul_add, ← Nat.add_assoc]
  congr 1
  rw [Nat.mul_comm (128 ^ i) 128, Nat.mul_left_comm]

theorem num_step (i : Nat) : ∀ m, i < (numL m).length →
    m % 128 ^ (i + 1) = m % 128 ^ i + (numL m).getD i 0 % 128 * 128 ^ i ∧
    ((numL m).getD i 0 < 128 → i + 1 = (numL m).length ∧ m % 128 ^ (i + 1) = m ∧ (i = 0 ∨ (numL m).getD i 0 ≠ 0)) ∧
    (¬ (numL m).getD i 0 < 128 → i + 1 < (numL m).length) := by
  induction i with
  | zero =>
    intro m _
    by_cases h : m < 128
    · rw [numL_last h]
      simp [Nat.mod_one]
      omega
    · rw [numL_more h]
      have := numL_ne (m / 128)
      have hl : 0 < (numL (m / 128)).length := by cases hq : numL (m / 128) with
        | nil => exact absurd hq this
        | cons _ _ => simp
      simp [Nat.mod_one]
      omega
  | succ i ih =>
    intro m hi
    by_cases h : m < 128
    · rw [numL_last h] at hi; simp at hi
    · rw [numL_more h] at hi ⊢
      simp only [List.length_cons] at hi ⊢
      obtain ⟨a, b, c⟩ := ih (m / 128) (by omega)
      have e : ((128 + m % 128) :: numL (m / 128)).getD (i + 1) 0 = (numL (m / 128)).getD i 0 := by simp [List.getD]
      rw [e]
      refine ⟨numL_mod m i _ a, fun hc => ?_, fun hc => by have := c hc; omega⟩
      obtain ⟨b1, b2, b3⟩ := b hc
      refine ⟨by omega, ?_, Or.inr ?_⟩
      · rw [show i + 1 + 1 = (i + 1) + 1 from rfl, Nat.pow_succ, Nat.mul_comm (128 ^ (i + 1)) 128, Nat.mod_mul, b2]; omega
      · rcases b3 with rfl | b3
        · intro h0
          have : m / 128 < 128 := by
            by_cases h2 : m / 128 < 128
            · exact h2
            · rw [numL_more h2] at h0; simp at h0
          rw [numL_last this] at h0
          simp at h0; omega
        · exact b3

theorem num_val {a b : Nat} (h : numL a = numL b) : a = b := by
  have key : ∀ a, a % 128 ^ (numL a).length = a := by
    intro a
    induction a using Nat.strongRecOn with
    | _ a ih =>
      by_cases h : a < 128
      · rw [numL_last h]; simp; omega
      · rw [numL_more h, List.length_cons, Nat.pow_succ, Nat.mul_comm _ 128, Nat.mod_mul, ih (a / 128) (by omega)]; omega
  have pre : ∀ i, i ≤ (numL a).length → a % 128 ^ i = b % 128 ^ i := by
    intro i
    induction i with
    | zero => intro _; simp [Nat.mod_one]
    | succ i ih =>
      intro hi
      rw [(num_step i a (by omega)).1, (num_step i b (by rw [← h]; omega)).1, ih (by omega), h]
  have := pre _ (Nat.le_refl _)
  rwa [key a, h, key b] at this

theorem numL_three {m : Nat} (h : m ≤ 16384) : (numL m).length ≤ 3 := numL_length 2 m (by omega)

def Sup (g : Nat) (r : Int) : Prop := 1 ≤ g ∧ g < 4611686018427387904 ∧ -1 ≤ r ∧ r < 16384

def supP (g : Nat) (r : Int) : List Nat := pageL 1 (g % 2) g (numL (r + 1).toNat)

theorem supP_len {g : Nat} {r : Int} (h : Sup g r) : (numL (r + 1).toNat).length ≤ 237 := by
  obtain ⟨_, _, h3, h4⟩ := h
  have := numL_three (m := (r + 1).toNat) (by omega)
  omega

theorem supP_put {g : Nat} {r : Int} (h : Sup g r) : putL 1 ((g % 2 : Nat) : Int) g (numL (r + 1).toNat) = supP g r := by
  have := supP_len h
  rw [putL_may ⟨by omega, by omega, by omega, by omega, this⟩]
  rfl

theorem supP_small (g : Nat) (r : Int) : Small (supP g r) := pageL_small _ _ _ (numL_small _)
theorem supP_length {g : Nat} {r : Int} (h : Sup g r) : (supP g r).length = 256 := pageL_length _ _ _ _ (supP_len h)

theorem supP_okk {g : Nat} {r : Int} (h : Sup g r) : Okk (supP g r) ∧ fK (supP g r) = 1 ∧ fG (supP g r) = g ∧ fD (supP g r) = numL (r + 1).toNat := by
  have hl := supP_len h
  have hg : g < 18446744073709551616 := by have := h.2.1; omega
  obtain ⟨a, b, c, d, f⟩ := page_okk 1 ((g % 2 : Nat) : Int) g (numL (r + 1).toNat) ⟨by omega, by omega, by omega, by omega, hl⟩ hg
  rw [supP_put h] at a b c d f
  exact ⟨a, by omega, d, f⟩

theorem supP_inj {g k : Nat} {r t : Int} (h : Sup g r) (h2 : Sup k t) (e : supP g r = supP k t) : g = k ∧ r = t := by
  obtain ⟨_, _, a, b⟩ := supP_okk h
  obtain ⟨_, _, c, d⟩ := supP_okk h2
  rw [e] at a b
  refine ⟨by rw [← a, c], ?_⟩
  have := num_val (b.symm.trans d)
  have h3 := h.2.2.1
  have h4 := h2.2.2.1
  omega
end Go.Proofs.YtifeihnhkbagpaaGreatDoor.P
namespace Go.Proofs.YtifeihnhkbagpaaGreatDoor.N

def bs (l : List Nat) : ByteArray := ⟨(l.map UInt8.ofNat).toArray⟩

theorem bs_size (l : List Nat) : (bs l).size = l.length := by simp [bs, ByteArray.size]
theorem bs_append (a b : List Nat) : bs a ++ bs b = bs (a ++ b) := by
  unfold bs; rw [ByteArray.mk_append_mk]; simp
theorem bs_extract (l : List Nat) (a b : Nat) : (bs l).extract a b = bs ((l.drop a).take (b - a)) := by
  unfold bs; rw [ByteArray.extract_mk]; simp [List.map_drop, List.map_take]
theorem bs_toList (l : List Nat) : (bs l).toList = l.map UInt8.ofNat := by
  unfold bs; exact ByteArray.toList_mk _
theorem bs_get (l : List Nat) (k : Nat) (h : k < (bs l).size) : (bs l)[k].toNat = (l.getD k 0) % 256 := by
  have h' : k < l.length := by rw [bs_size] at h; exact h
  have : (bs l)[k] = UInt8.ofNat l[k] := by
    show (bs l).data[k]'h = _
    simp [bs]
  rw [this]
  simp [List.getD, List.getElem?_eq_getElem h']

def un (s : ByteArray) : List Nat := s.data.toList.map UInt8.toNat

theorem bs_un (s : ByteArray) : bs (un s) = s := by
  unfold bs un
  simp [List.map_map, Function.comp_def]

theorem un_length (s : ByteArray) : (un s).length = s.size := by unfold un ByteArray.size; rw [List.length_map, Array.length_toList]

def Small (l : List Nat) : Prop := ∀ x ∈ l, x < 256

theorem un_small (s : ByteArray) : Small (un s) := by
  intro x hx
  simp [un] at hx
  obtain ⟨a, _, rfl⟩ := hx
  exact UInt8.toNat_lt a

theorem Small.take {l : List Nat} (h : Small l) (k : Nat) : Small (l.take k) := fun x hx => h x (List.mem_of_mem_take hx)
theorem Small.drop {l : List Nat} (h : Small l) (k : Nat) : Small (l.drop k) := fun x hx => h x (List.mem_of_mem_drop hx)
theorem Small.append {a b : List Nat} (h : Small a) (k : Small b) : Small (a ++ b) := by
  intro x hx
  rcases List.mem_append.1 hx with hx | hx
  · exact h x hx
  · exact k x hx
theorem Small.getD {l : List Nat} (h : Small l) (k : Nat) : l.getD k 0 < 256 := by
  rcases Nat.lt_or_ge k l.length with hk | hk
  · simp [List.getD, List.getElem?_eq_getElem hk]; exact h _ (List.getElem_mem hk)
  · simp [List.getD, List.getElem?_eq_none hk]

def numF : Nat → Nat → List Nat
  | 0, _ => []
  | f + 1, n => if n < 128 then [n] else (128 + n % 128) :: numF f (n / 128)

theorem numF_same : ∀ (f g n : Nat), n < f → n < g → numF f n = numF g n := by
  intro f
  induction f with
  | zero => intro g n h; omega
  | succ f ih =>
    intro g n h1 h2
    cases g with
    | zero => omega
    | succ g =>
      rw [numF, numF]
      by_cases h : n < 128
      · rw [if_pos h, if_pos h]
      · rw [if_neg h, if_neg h, ih g (n / 128) (by omega) (by omega)]

def numL (n : Nat) : List Nat := numF (n + 1) n

theorem numL_last {n : Nat} (h : n < 128) : numL n = [n] := by rw [numL, numF, if_pos h]
theorem numL_more {n : Nat} (h : ¬ n < 128) : numL n = (128 + n % 128) :: numL (n / 128) := by
  rw [numL, numF, if_neg h, numL, numF_same n (n / 128 + 1) (n / 128) (by omega) (by omega)]

theorem numL_small (n : Nat) : Small (numL n) := by
  induction n using Nat.strongRecOn with
  | _ n ih =>
    by_cases h : n < 128
    · rw [numL_last h]; intro x hx; simp at hx; omega
    · rw [numL_more h]; intro x hx
      rcases List.mem_cons.1 hx with rfl | hx
      · omega
      · exact ih (n / 128) (by omega) x hx

theorem numL_length (k : Nat) : ∀ n, n < 128 ^ (k + 1) → (numL n).length ≤ k + 1 := by
  induction k with
  | zero => intro n h; rw [numL_last (by simpa using h)]; simp
  | succ k ih =>
    intro n h
    by_cases h1 : n < 128
    · rw [numL_last h1]; simp
    · rw [numL_more h1]
      have := ih (n / 128) (by rw [Nat.pow_succ] at h; omega)
      simp; omega

theorem numL_ten (n : Nat) (h : n < 18446744073709551616) : (numL n).length ≤ 10 := numL_length 9 n (by omega)

theorem numL_ne (n : Nat) : numL n ≠ [] := by
  by_cases h : n < 128
  · rw [numL_last h]; simp
  · rw [numL_more h]; simp

theorem map_inj : ∀ {a b : List Nat}, Small a → Small b → a.map UInt8.ofNat = b.map UInt8.ofNat → a = b := by
  intro a
  induction a with
  | nil => intro b _ _ h; cases b with
    | nil => rfl
    | cons y b => simp at h
  | cons x a ih =>
    intro b ha hb h
    cases b with
    | nil => simp at h
    | cons y b =>
      simp only [List.map_cons, List.cons.injEq] at h
      have hx := ha x (by simp)
      have hy := hb y (by simp)
      have : x = y := by
        have := congrArg UInt8.toNat h.1
        simp at this
        omega
      rw [this, ih (fun z hz => ha z (by simp [hz])) (fun z hz => hb z (by simp [hz])) h.2]

theorem bs_eq {a b : List Nat} (ha : Small a) (hb : Small b) : ((bs a).toList == (bs b).toList) = decide (a = b) := by
  rw [bs_toList, bs_toList]
  by_cases h : a = b
  · subst h; simp
  · have : a.map UInt8.ofNat ≠ b.map UInt8.ofNat := fun e => h (map_inj ha hb e)
    simp [h, this]

def fixL (n : Nat) : Nat → List Nat
  | 0 => []
  | k + 1 => (n % 256) :: fixL (n / 256) k

theorem fixL_length (k : Nat) : ∀ n, (fixL n k).length = k := by
  induction k with
  | zero => intro n; rfl
  | succ k ih => intro n; simp [fixL, ih]

theorem fixL_at (k : Nat) : ∀ n i, i < k → (fixL n k).getD i 0 = n / 256 ^ i % 256 := by
  induction k with
  | zero => intro n i h; omega
  | succ k ih =>
    intro n i h
    cases i with
    | zero => simp [fixL]
    | succ i => rw [fixL, List.getD_cons_succ, ih _ i (by omega), Nat.div_div_eq_div_mul, Nat.pow_succ, Nat.mul_comm]

theorem fixL_small (n k : Nat) : Small (fixL n k) := by
  induction k generalizing n with
  | zero => intro x hx; simp [fixL] at hx
  | succ k ih =>
    intro x hx
    rcases List.mem_cons.1 hx with rfl | hx
    · omega
    · exact ih _ x hx

theorem mod_step (n p b : Nat) : n % (p * b) = n % p + n / p % b * p := by
  rw [Nat.mod_mul, Nat.mul_comm p]

theorem or_add (a x i : Nat) (h : a < 2 ^ i) : a ||| x * 2 ^ i = a + x * 2 ^ i := by
  have := Nat.shiftLeft_add_eq_or_of_lt h x
  rw [Nat.shiftLeft_eq] at this
  rw [Nat.or_comm, ← this, Nat.add_comm]
end Go.Proofs.YtifeihnhkbagpaaGreatDoor.N