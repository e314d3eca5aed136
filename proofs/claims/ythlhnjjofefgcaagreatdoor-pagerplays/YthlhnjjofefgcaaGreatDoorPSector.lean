/- Plain lists: a page's sector, what is read of bytes, and that a sector of which one byte is another one says no page. No condition but those that each row names. -/
import Derived.Test.YthlhnjjofefgcaaGreatDoorPBytes
import Derived.Test.YthlhnjjofefgcaaGreatDoorPWalkA
namespace Go.Proofs.YthlhnjjofefgcaaGreatDoor.P
open Chk

/-- The number that bytes are, the lowest first. -/
def lowV : List Nat → Nat
  | [] => 0
  | x :: t => x + 256 * lowV t

theorem lowV_lt {l : List Nat} (h : Small l) : lowV l < 256 ^ l.length := by
  induction l with
  | nil => simp [lowV]
  | cons x t ih =>
    have h1 := h x (by simp)
    have h2 := ih (fun y hy => h y (by simp [hy]))
    simp only [lowV, List.length_cons, Nat.pow_succ]
    omega

theorem fixL_lowV {l : List Nat} (h : Small l) : fixL (lowV l) l.length = l := by
  induction l with
  | nil => rfl
  | cons x t ih =>
    have h1 := h x (by simp)
    have h2 := ih (fun y hy => h y (by simp [hy]))
    simp only [lowV, List.length_cons, fixL]
    rw [show (x + 256 * lowV t) % 256 = x by omega, show (x + 256 * lowV t) / 256 = lowV t by omega, h2]

theorem lowV_fixL (k : Nat) : ∀ n, lowV (fixL n k) = n % 256 ^ k := by
  induction k with
  | zero => intro n; simp [fixL, lowV, Nat.mod_one]
  | succ k ih =>
    intro n
    simp only [fixL, lowV]
    rw [ih, Nat.pow_succ, Nat.mul_comm (256 ^ k) 256, Nat.mod_mul]

theorem lowV_fits {n k : Nat} (h : n < 256 ^ k) : lowV (fixL n k) = n := by rw [lowV_fixL, Nat.mod_eq_of_lt h]

/-- The check of bytes. -/
def chk (l : List Nat) : Nat := check (byte (bs l)) (bs l).size

theorem chk_lt (l : List Nat) : chk l < 4294967296 := check_lt (byte_lt (bs l)) _

theorem byte_bs {l : List Nat} (h : Small l) (i : Nat) (hi : i < l.length) : byte (bs l) i = l.getD i 0 := by
  have hz : i < (bs l).size := by rw [bs_size]; exact hi
  rw [← byte_at hz, bs_get l i hz, Nat.mod_eq_of_lt (h.getD i)]

/-- A sector but its check. -/
def headL (k n g : Nat) (l : List Nat) : List Nat := fixL k 1 ++ (fixL n 4 ++ (fixL g 8 ++ (fixL l.length 2 ++ (l ++ List.replicate (237 - l.length) 0))))

/-- A sector. -/
def pageL (k n g : Nat) (l : List Nat) : List Nat := headL k n g l ++ fixL (chk (headL k n g l)) 4

/-- May a page be? -/
def May (kd nm : Int) (l : List Nat) : Prop := 1 ≤ kd ∧ kd ≤ 4 ∧ 0 ≤ nm ∧ nm < 16384 ∧ l.length ≤ 237

/-- What Put answers. -/
def putL (kd nm : Int) (g : Nat) (l : List Nat) : List Nat :=
  if 1 ≤ kd ∧ kd ≤ 4 ∧ 0 ≤ nm ∧ nm < 16384 ∧ l.length ≤ 237 then pageL kd.toNat nm.toNat g l else []

theorem putL_may {kd nm : Int} {g : Nat} {l : List Nat} (h : May kd nm l) : putL kd nm g l = pageL kd.toNat nm.toNat g l := by
  unfold putL; exact if_pos h

theorem putL_not {kd nm : Int} {g : Nat} {l : List Nat} (h : ¬ May kd nm l) : putL kd nm g l = [] := by
  unfold putL; exact if_neg h

theorem headL_length (k n g : Nat) (l : List Nat) (h : l.length ≤ 237) : (headL k n g l).length = 252 := by
  simp only [headL, List.length_append, fixL_length, List.length_replicate]; omega

theorem pageL_length (k n g : Nat) (l : List Nat) (h : l.length ≤ 237) : (pageL k n g l).length = 256 := by
  simp only [pageL, List.length_append, fixL_length, headL_length k n g l h]

theorem headL_small (k n g : Nat) {l : List Nat} (h : Small l) : Small (headL k n g l) := by
  refine (fixL_small _ _).append ((fixL_small _ _).append ((fixL_small _ _).append ((fixL_small _ _).append (h.append ?_))))
  intro x hx
  rw [(List.mem_replicate.1 hx).2]; decide

theorem pageL_small (k n g : Nat) {l : List Nat} (h : Small l) : Small (pageL k n g l) := (headL_small k n g h).append (fixL_small _ _)

theorem putL_small (kd nm : Int) (g : Nat) {l : List Nat} (h : Small l) : Small (putL kd nm g l) := by
  unfold putL; split
  · exact pageL_small _ _ _ h
  · intro x hx; cases hx

theorem putL_length (kd nm : Int) (g : Nat) (l : List Nat) : (putL kd nm g l).length ≤ 256 := by
  unfold putL; split
  · next h => rw [pageL_length _ _ _ _ h.2.2.2.2]; omega
  · simp

/-- So many bytes taken: they, what is left, the error. -/
def takeS (n : Nat) (l : List Nat) (x : Int) : List Nat × List Nat × Int := if n ≤ l.length then (l.take n, l.drop n, x) else ([], [], 2)

/-- The first error empties what is left. -/
def Fine (l : List Nat) (x : Int) : Prop := x = 0 ∨ x = 2 ∧ l = []

theorem takeS_fine {n : Nat} {l : List Nat} {x : Int} {m l' : List Nat} {x' : Int} (h : Fine l x) (e : takeS n l x = (m, l', x')) : Fine l' x' := by
  unfold takeS at e
  split at e
  · injection e with e1 e2; injection e2 with e2 e3; subst e1 e2 e3
    rcases h with h | ⟨h, hl⟩
    · exact .inl h
    · exact .inr ⟨h, by rw [hl]; simp⟩
  · injection e with e1 e2; injection e2 with e2 e3; subst e1 e2 e3
    exact .inr ⟨rfl, rfl⟩

theorem takeS_small {n : Nat} {l : List Nat} {x : Int} {m l' : List Nat} {x' : Int} (h : Small l) (e : takeS n l x = (m, l', x')) : Small m ∧ Small l' ∧ m.length ≤ n ∧ m.length ≤ l.length ∧ l'.length ≤ l.length := by
  unfold takeS at e
  split at e
  · next hn =>
    injection e with e1 e2; injection e2 with e2 e3; subst e1 e2 e3
    exact ⟨h.take _, h.drop _, by simp; omega, by simp; omega, by simp⟩
  · injection e with e1 e2; injection e2 with e2 e3; subst e1 e2 e3
    exact ⟨fun x hx => (by cases hx), fun x hx => (by cases hx), by simp, by simp, by simp⟩

theorem takeS_ok {n : Nat} {l : List Nat} {x : Int} {m l' : List Nat} {x' : Int} (hx : x' = 0) (e : takeS n l x = (m, l', x')) : n ≤ l.length ∧ x = 0 ∧ m = l.take n ∧ l' = l.drop n := by
  unfold takeS at e
  split at e
  · next hn =>
    injection e with e1 e2; injection e2 with e2 e3
    exact ⟨hn, e3.trans hx, e1.symm, e2.symm⟩
  · injection e with e1 e2; injection e2 with e2 e3
    rw [hx] at e3; cases e3

theorem takeS_in {n : Nat} {l : List Nat} (h : n ≤ l.length) : takeS n l 0 = (l.take n, l.drop n, 0) := by unfold takeS; rw [if_pos h]

/-- What a sector's bytes say. -/
def fK (s : List Nat) : Nat := lowV (s.take 1)
def fN (s : List Nat) : Nat := lowV ((s.drop 1).take 4)
def fG (s : List Nat) : Nat := lowV ((s.drop 5).take 8)
def fC (s : List Nat) : Nat := lowV ((s.drop 13).take 2)
def fD (s : List Nat) : List Nat := (s.drop 15).take (fC s)
/-- The sector of the page that bytes say. -/
def said (s : List Nat) : List Nat := putL (fK s) (fN s) (fG s) (fD s)
/-- Bytes are a sector. -/
def Okk (s : List Nat) : Prop := 15 + fC s ≤ s.length ∧ s = said s

theorem get_all {s m1 l1 m2 l2 m3 l3 m4 l4 m5 l5 : List Nat} {x1 x2 x3 x4 x5 : Int}
    (e1 : takeS 1 s 0 = (m1, l1, x1)) (e2 : takeS 4 l1 x1 = (m2, l2, x2)) (e3 : takeS 8 l2 x2 = (m3, l3, x3)) (e4 : takeS 2 l3 x3 = (m4, l4, x4)) (e5 : takeS (lowV m4) l4 x4 = (m5, l5, x5)) (h : x5 = 0) :
    15 + fC s ≤ s.length ∧ lowV m1 = fK s ∧ lowV m2 = fN s ∧ lowV m3 = fG s ∧ m5 = fD s := by
  obtain ⟨n5, h4, rfl, rfl⟩ := takeS_ok h e5
  obtain ⟨n4, h3, rfl, rfl⟩ := takeS_ok h4 e4
  obtain ⟨n3, h2, rfl, rfl⟩ := takeS_ok h3 e3
  obtain ⟨n2, h1, rfl, rfl⟩ := takeS_ok h2 e2
  obtain ⟨n1, _, rfl, rfl⟩ := takeS_ok h1 e1
  simp only [List.drop_drop, List.length_drop] at n5 n4 n3 n2 ⊢
  refine ⟨?_, rfl, rfl, rfl, rfl⟩
  have n5' : fC s ≤ _ := n5
  omega

theorem get_none {s m1 l1 m2 l2 m3 l3 m4 l4 m5 l5 : List Nat} {x1 x2 x3 x4 x5 : Int}
    (e1 : takeS 1 s 0 = (m1, l1, x1)) (e2 : takeS 4 l1 x1 = (m2, l2, x2)) (e3 : takeS 8 l2 x2 = (m3, l3, x3)) (e4 : takeS 2 l3 x3 = (m4, l4, x4)) (e5 : takeS (lowV m4) l4 x4 = (m5, l5, x5)) (h : x5 ≠ 0) :
    ¬ 15 + fC s ≤ s.length := by
  intro hs
  rw [takeS_in (by omega)] at e1
  injection e1 with a1 b1; injection b1 with b1 c1; subst a1 b1 c1
  rw [takeS_in (by simp; omega)] at e2
  injection e2 with a1 b1; injection b1 with b1 c1; subst a1 b1 c1
  rw [takeS_in (by simp; omega)] at e3
  injection e3 with a1 b1; injection b1 with b1 c1; subst a1 b1 c1
  rw [takeS_in (by simp; omega)] at e4
  injection e4 with a1 b1; injection b1 with b1 c1; subst a1 b1 c1
  simp only [List.drop_drop] at e5
  rw [takeS_in (by unfold fC at hs; simp; omega)] at e5
  injection e5 with a1 b1; injection b1 with b1 c1
  exact h c1.symm

/-- Bytes are a sector just where there are as many as a sector has, and the page that they say has it. -/
theorem okk_iff (s : List Nat) : Okk s ↔ s.length = 256 ∧ fC s ≤ 237 ∧ said s = s := by
  constructor
  · rintro ⟨h1, h2⟩
    by_cases hm : May (fK s) (fN s) (fD s)
    · have hd : (fD s).length ≤ 237 := hm.2.2.2.2
      have hl : (fD s).length = fC s := by unfold fD; rw [List.length_take, List.length_drop]; omega
      refine ⟨?_, by omega, h2.symm⟩
      have h3 : said s = pageL _ _ _ _ := putL_may hm
      rw [h2, h3]
      exact pageL_length _ _ _ _ hd
    · have h3 : said s = [] := putL_not hm
      rw [h3] at h2
      rw [h2] at h1
      simp at h1
  · rintro ⟨h1, h2, h3⟩
    exact ⟨by omega, h3.symm⟩

theorem take_app {a b : List Nat} {n : Nat} (h : a.length = n) : (a ++ b).take n = a := by rw [← h]; simp
theorem drop_app {a b : List Nat} {n : Nat} (h : a.length = n) : (a ++ b).drop n = b := by rw [← h]; simp

/-- A page's sector says it. -/
theorem page_said (k n g : Nat) (l : List Nat) (hk : k < 256) (hn : n < 4294967296) (hg : g < 18446744073709551616) (hl : l.length ≤ 237) :
    fK (pageL k n g l) = k ∧ fN (pageL k n g l) = n ∧ fG (pageL k n g l) = g ∧ fC (pageL k n g l) = l.length ∧ fD (pageL k n g l) = l := by
  have e : pageL k n g l = fixL k 1 ++ (fixL n 4 ++ (fixL g 8 ++ (fixL l.length 2 ++ (l ++ (List.replicate (237 - l.length) 0 ++ fixL (chk (headL k n g l)) 4))))) := by
    unfold pageL
    conv => lhs; lhs; unfold headL
    simp only [List.append_assoc]
  generalize List.replicate (237 - l.length) 0 ++ fixL (chk (headL k n g l)) 4 = r at e
  have d1 : (pageL k n g l).drop 1 = fixL n 4 ++ (fixL g 8 ++ (fixL l.length 2 ++ (l ++ r))) := by rw [e, drop_app (fixL_length 1 k)]
  have d5 : (pageL k n g l).drop 5 = fixL g 8 ++ (fixL l.length 2 ++ (l ++ r)) := by
    rw [show 5 = 1 + 4 from rfl, ← List.drop_drop, d1, drop_app (fixL_length 4 n)]
  have d13 : (pageL k n g l).drop 13 = fixL l.length 2 ++ (l ++ r) := by
    rw [show 13 = 5 + 8 from rfl, ← List.drop_drop, d5, drop_app (fixL_length 8 g)]
  have d15 : (pageL k n g l).drop 15 = l ++ r := by
    rw [show 15 = 13 + 2 from rfl, ← List.drop_drop, d13, drop_app (fixL_length 2 _)]
  have hc : fC (pageL k n g l) = l.length := by
    unfold fC; rw [d13, take_app (fixL_length 2 _)]; exact lowV_fits (by omega)
  refine ⟨?_, ?_, ?_, hc, ?_⟩
  · unfold fK; rw [e, take_app (fixL_length 1 k)]; exact lowV_fits (by omega)
  · unfold fN; rw [d1, take_app (fixL_length 4 n)]; exact lowV_fits (by omega)
  · unfold fG; rw [d5, take_app (fixL_length 8 g)]; exact lowV_fits (by omega)
  · unfold fD; rw [hc, d15, take_app rfl]

theorem page_okk (kd nm : Int) (g : Nat) (l : List Nat) (hm : May kd nm l) (hg : g < 18446744073709551616) :
    Okk (putL kd nm g l) ∧ (fK (putL kd nm g l) : Int) = kd ∧ (fN (putL kd nm g l) : Int) = nm ∧ fG (putL kd nm g l) = g ∧ fD (putL kd nm g l) = l := by
  have e := putL_may (g := g) hm
  obtain ⟨h1, h2, h3, h4, h5⟩ := hm
  obtain ⟨a, b, c, d, f⟩ := page_said kd.toNat nm.toNat g l (by omega) (by omega) hg h5
  have a' : (fK (putL kd nm g l) : Int) = kd := by rw [e, a]; omega
  have b' : (fN (putL kd nm g l) : Int) = nm := by rw [e, b]; omega
  have c' : fG (putL kd nm g l) = g := by rw [e, c]
  have f' : fD (putL kd nm g l) = l := by rw [e, f]
  refine ⟨⟨?_, ?_⟩, a', b', c', f'⟩
  · rw [e, d, pageL_length _ _ _ _ h5]; omega
  · unfold said; rw [a', b', c', f']

theorem empty_not : ¬ Okk [] := fun h => by have := h.1; simp at this

theorem xor_ne {a b : Nat} (h : b ≠ 0) : a ^^^ b ≠ a := by
  intro e
  apply h
  have := xor_can' b a
  rw [e, Nat.xor_self] at this
  exact this.symm

/-- A sector of which one byte is another one says no page. -/
theorem one_byte (k n g : Nat) (l : List Nat) (hs : Small l) (hl : l.length ≤ 237) (i : Nat) (hi : i < 256) (y : Nat) (hy : y ≠ 0) (hy2 : y < 256) :
    ¬ Okk ((pageL k n g l).set i ((pageL k n g l).getD i 0 ^^^ y)) := by
  intro ho
  generalize ht : (pageL k n g l).set i ((pageL k n g l).getD i 0 ^^^ y) = t at ho
  have hsm := pageL_small k n g hs
  have hln := pageL_length k n g l hl
  have hat : ∀ j, t.getD j 0 = if j = i then (pageL k n g l).getD i 0 ^^^ y else (pageL k n g l).getD j 0 := by
    intro j
    rw [← ht]
    simp only [List.getD, List.getElem?_set]
    by_cases hj : j = i
    · subst hj; simp [hln, hi]
    · have : ¬ i = j := fun e => hj e.symm
      simp [this, hj]
  have hts : Small t := by
    rw [← ht]
    intro x hx
    rcases List.mem_or_eq_of_mem_set hx with hx | hx
    · exact hsm x hx
    · rw [hx]; exact Nat.xor_lt_two_pow (n := 8) (hsm.getD i) hy2
  obtain ⟨h1, h2, h3⟩ := (okk_iff t).1 ho
  -- t is a page's sector
  have hm : May (fK t) (fN t) (fD t) := by
    apply Classical.byContradiction
    intro hn
    have : said t = [] := putL_not hn
    rw [this] at h3
    rw [← h3] at h1
    simp at h1
  have hD : Small (fD t) := (hts.drop 15).take _
  have he : said t = pageL _ _ _ _ := putL_may hm
  rw [h3] at he
  have hd := hm.2.2.2.2
  generalize (fK t : Int).toNat = k' at he
  generalize (fN t : Int).toNat = n' at he
  generalize fG t = g' at he
  generalize fD t = l' at he hD hd
  have hH : (headL k n g l).length = 252 := headL_length k n g l hl
  have hH' : (headL k' n' g' l').length = 252 := headL_length k' n' g' l' hd
  have hS := headL_small k n g hs
  have hS' := headL_small k' n' g' hD
  have ep : pageL k n g l = headL k n g l ++ fixL (chk (headL k n g l)) 4 := rfl
  have ep' : t = headL k' n' g' l' ++ fixL (chk (headL k' n' g' l')) 4 := he
  generalize headL k n g l = H at *
  generalize headL k' n' g' l' = H' at *
  generalize pageL k n g l = P at *
  -- bytes of both
  have a1 : ∀ j, j < 252 → P.getD j 0 = H.getD j 0 := by
    intro j hj; rw [ep]; simp [List.getD, List.getElem?_append_left (show j < H.length by omega)]
  have a2 : ∀ j, j < 252 → t.getD j 0 = H'.getD j 0 := by
    intro j hj; rw [ep']; simp [List.getD, List.getElem?_append_left (show j < H'.length by omega)]
  have b1 : ∀ j, j < 4 → P.getD (252 + j) 0 = (fixL (chk H) 4).getD j 0 := by
    intro j hj; rw [ep]; simp [List.getD, List.getElem?_append_right (show H.length ≤ 252 + j by omega), hH]
  have b2 : ∀ j, j < 4 → t.getD (252 + j) 0 = (fixL (chk H') 4).getD j 0 := by
    intro j hj; rw [ep']; simp [List.getD, List.getElem?_append_right (show H'.length ≤ 252 + j by omega), hH']
  have bH : ∀ j, j < 252 → byte (bs H) j = P.getD j 0 := fun j hj => by rw [byte_bs hS j (by omega), a1 j hj]
  have bH' : ∀ j, j < 252 → byte (bs H') j = t.getD j 0 := fun j hj => by rw [byte_bs hS' j (by omega), a2 j hj]
  have zH : (bs H).size = 252 := by rw [bs_size, hH]
  have zH' : (bs H').size = 252 := by rw [bs_size, hH']
  have hne : t.getD i 0 ≠ P.getD i 0 := by rw [hat i, if_pos rfl]; exact xor_ne hy
  by_cases hi2 : i < 252
  · have hc : chk H = chk H' := by
      have e4 : fixL (chk H) 4 = fixL (chk H') 4 := by
        apply List.ext_getElem?
        intro j
        by_cases hj : j < 4
        · have u1 := b1 j hj
          have u2 := b2 j hj
          rw [hat, if_neg (by omega), u1] at u2
          have v1 : j < (fixL (chk H) 4).length := by rw [fixL_length]; exact hj
          have v2 : j < (fixL (chk H') 4).length := by rw [fixL_length]; exact hj
          simp only [List.getD, List.getElem?_eq_getElem v1, List.getElem?_eq_getElem v2, Option.getD_some] at u2
          rw [List.getElem?_eq_getElem v1, List.getElem?_eq_getElem v2, u2]
        · rw [List.getElem?_eq_none (by rw [fixL_length]; omega), List.getElem?_eq_none (by rw [fixL_length]; omega)]
      have q1 := lowV_fits (n := chk H) (k := 4) (chk_lt H)
      have q2 := lowV_fits (n := chk H') (k := 4) (chk_lt H')
      rw [e4] at q1
      omega
    unfold chk at hc
    rw [zH, zH'] at hc
    have hb := burst (byte (bs H)) (byte (bs H')) (byte_lt _) (byte_lt _) i 1 (251 - i) (by omega)
      (fun j hj => by rw [bH j (by omega), bH' j (by omega), hat, if_neg (by omega)])
      (fun j hj hj2 => by rw [bH j (by omega), bH' j (by omega), hat, if_neg (by omega)])
      (by rw [show i + 1 + (251 - i) = 252 by omega]; exact hc) i (by omega)
    rw [bH i hi2, bH' i hi2] at hb
    exact hne hb.symm
  · have hHH : H = H' := by
      apply List.ext_getElem?
      intro j
      by_cases hj : j < 252
      · have u1 := a1 j hj
        have u2 := a2 j hj
        rw [hat, if_neg (by omega), u1] at u2
        have v1 : j < H.length := by omega
        have v2 : j < H'.length := by omega
        simp only [List.getD, List.getElem?_eq_getElem v1, List.getElem?_eq_getElem v2, Option.getD_some] at u2
        rw [List.getElem?_eq_getElem v1, List.getElem?_eq_getElem v2, u2]
      · rw [List.getElem?_eq_none (by omega), List.getElem?_eq_none (by omega)]
    apply hne
    rw [ep, ep', hHH]
end Go.Proofs.YthlhnjjofefgcaaGreatDoor.P
