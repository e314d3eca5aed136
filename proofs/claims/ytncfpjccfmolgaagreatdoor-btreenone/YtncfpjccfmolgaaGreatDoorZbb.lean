/- Joined: BB BC BD BE BF BG BH NNU. What is proved of the functions beneath BtreeNone. Conditions: those that each row names. -/
import Derived.Test.YtncfpjccfmolgaaGreatDoorZba
namespace Go.Proofs.YtncfpjccfmolgaaGreatDoor.B
open Go.Proofs.YtncfpjccfmolgaaGreatDoor.N

theorem sl_asymm {a b : ByteArray} (h : sl a b = true) : sl b a = false := by
  cases h' : sl b a with
  | false => rfl
  | true => have := sl_trans h h'; rw [sl_irrefl] at this; cases this
theorem lt_le {a b c : ByteArray} (h : sl a b = true) (k : sl c b = false) : sl a c = true := by
  by_cases e : c = b
  · subst e; exact h
  · exact sl_trans h (sl_total k e)
theorem R_e {a b : ByteArray} {v : Vl} {o : Option Vl} : R (a, some v) (b, o) ↔ sl a b = true := by simp [R]
theorem R_s {a b : ByteArray} : R (a, none) (b, none) ↔ sl a b = true := by simp [R]
theorem R_se {a b : ByteArray} {v : Vl} : R (a, none) (b, some v) ↔ sl b a = false := by simp [R]
theorem R_none {a : Mk} {b : ByteArray} : R a (b, none) ↔ sl a.1 b = true := by simp [R]
/-- Ahead of a key. -/
theorem R_key {a : Mk} {b : ByteArray} {v : Vl} (h : sl a.1 b = true) : R a (b, some v) := by
  unfold R
  split
  · exact sl_asymm h
  · exact h
def mk (e : En) : Mk := (e.1, some e.2)

/-- A leaf at a key: what stands ahead of it, what it has, what stands behind it. -/
theorem leaf_split (k : ByteArray) (v : Vl) : ∀ (ks : List ByteArray) (vs : List Vl), Up ks → vs.length = ks.length → ∃ l1 m0 l3 : List En, ks.zip vs = l1 ++ m0 ++ l3 ∧ (∀ e ∈ l1, sl e.1 k = true) ∧ (∀ e ∈ l3, sl k e.1 = true) ∧
    ((isk k ks = true ∧ m0 = [(k, oldV ks vs k)]) ∨ (isk k ks = false ∧ m0 = [])) ∧ (setK ks k).zip (setV ks vs k v) = l1 ++ (k, v) :: l3 ∧ (delK ks k).zip (delV ks vs k) = l1 ++ l3
  | [], vs, _, h => by
    obtain rfl : vs = [] := List.eq_nil_of_length_eq_zero (by simpa using h)
    refine ⟨[], [], [], rfl, by simp, by simp, .inr ⟨rfl, rfl⟩, ?_, ?_⟩ <;> simp [setK, setV, delK, delV, isk, fnd, ins]
  | k0 :: ks, [], _, h => by simp at h
  | k0 :: ks, v0 :: vs, hu, h => by
    have hu' := List.pairwise_cons.1 hu
    by_cases hs : sl k0 k = true
    · obtain ⟨l1, m0, l3, e, h1, h3, h4, h5, h6⟩ := leaf_split k v ks vs hu'.2 (by simpa using h)
      have ef : fnd k (k0 :: ks) = fnd k ks + 1 := by simp [fnd, hs]
      have ei : isk k (k0 :: ks) = isk k ks := by simp [isk, ef]
      have eo : oldV (k0 :: ks) (v0 :: vs) k = oldV ks vs k := by simp [oldV, ei, ef]
      refine ⟨(k0, v0) :: l1, m0, l3, by simp [e], ?_, h3, ?_, ?_, ?_⟩
      · intro x hx
        rcases List.mem_cons.1 hx with rfl | hx
        · exact hs
        · exact h1 x hx
      · rw [ei, eo]; exact h4
      · have : (setK (k0 :: ks) k).zip (setV (k0 :: ks) (v0 :: vs) k v) = (k0, v0) :: (setK ks k).zip (setV ks vs k v) := by
          unfold setK setV
          rw [ei, ef]
          split <;> simp [ins]
        rw [this, h5]; rfl
      · have : (delK (k0 :: ks) k).zip (delV (k0 :: ks) (v0 :: vs) k) = (k0, v0) :: (delK ks k).zip (delV ks vs k) := by
          unfold delK delV
          rw [ei, ef]
          split <;> simp [del]
        rw [this, h6]; rfl
    · have hs' : sl k0 k = false := by simpa using hs
      have ef : fnd k (k0 :: ks) = 0 := by simp [fnd, hs']
      by_cases he : k0 = k
      · subst he
        have ei : isk k0 (k0 :: ks) = true := by simp [isk, ef]
        refine ⟨[], [(k0, v0)], ks.zip vs, by simp, by simp, ?_, .inl ⟨ei, by simp [oldV, ei, ef]⟩, ?_, ?_⟩
        · intro x hx
          exact hu'.1 x.1 (List.of_mem_zip hx).1
        · simp [setK, setV, ei, ef]
        · simp [delK, delV, ei, ef, del]
      · have ei : isk k (k0 :: ks) = false := by simp [isk, ef, he]
        have hlt : sl k k0 = true := sl_total hs' he
        refine ⟨[], [], (k0, v0) :: ks.zip vs, by simp, by simp, ?_, .inr ⟨ei, rfl⟩, ?_, ?_⟩
        · intro x hx
          rcases List.mem_cons.1 hx with rfl | hx
          · exact hlt
          · exact sl_trans hlt (hu'.1 x.1 (List.of_mem_zip hx).1)
        · simp [setK, setV, ei, ef, ins]
        · simp [delK, delV, ei]
/-- All marks are ahead of a key; all are behind it. -/
def Ah (k : ByteArray) (A : List Mk) : Prop := ∀ a ∈ A, ∀ v, R a (k, some v)
def Be (k : ByteArray) (C : List Mk) : Prop := ∀ c ∈ C, sl k c.1 = true
theorem Ah.con {k : ByteArray} {A : List Mk} (h : Ah k A) : ∀ e ∈ con A, sl e.1 k = true := fun e he => R_e.1 (h _ (mem_con he) e.2)
theorem Be.con {k : ByteArray} {A : List Mk} (h : Be k A) : ∀ e ∈ con A, sl k e.1 = true := fun _ he => h _ (mem_con he)

/-- The kid that a key belongs to. -/
def plc (x : Nd) (k : ByteArray) : Nat := fnd k x.ks + (if isk k x.ks = true then 1 else 0)
theorem plc_le (x : Nd) (k : ByteArray) : plc x k ≤ x.ks.length := by
  unfold plc
  have := fnd_le k x.ks
  split
  · rename_i h; have := isk_lt h; omega
  · omega
theorem plc_below {x : Nd} (k : ByteArray) : ∀ a ∈ x.ks.take (plc x k), sl k a = false := by
  intro a ha
  obtain ⟨j, hj, e⟩ := List.getElem_of_mem ha
  rw [List.length_take] at hj
  have e2 : x.ks[j]? = some a := by rw [← e, List.getElem_take]; exact List.getElem?_eq_getElem (by omega)
  by_cases h : j < fnd k x.ks
  · exact sl_asymm (fnd_below k x.ks j a h e2)
  · have hp : plc x k = fnd k x.ks + (if isk k x.ks = true then 1 else 0) := rfl
    by_cases hi : isk k x.ks = true
    · rw [if_pos hi] at hp
      obtain rfl : j = fnd k x.ks := by omega
      rw [isk_at hi] at e2
      obtain rfl := Option.some.inj e2
      exact sl_irrefl _
    · rw [if_neg hi] at hp; omega
theorem plc_above {x : Nd} (hu : Up x.ks) (k : ByteArray) : ∀ a ∈ x.ks.drop (plc x k), sl k a = true := by
  intro a ha
  obtain ⟨j, hj, e⟩ := List.getElem_of_mem ha
  rw [List.length_drop] at hj
  rw [List.getElem_drop] at e
  have hlt := fnd_le k x.ks
  have e2 : x.ks[plc x k + j]? = some a := by rw [← e]; exact List.getElem?_eq_getElem (by omega)
  have hp : plc x k = fnd k x.ks + (if isk k x.ks = true then 1 else 0) := rfl
  have hfl : fnd k x.ks < x.ks.length := by omega
  have ef : x.ks[fnd k x.ks]? = some x.ks[fnd k x.ks] := List.getElem?_eq_getElem hfl
  have hge := fnd_at k x.ks _ ef
  by_cases hi : isk k x.ks = true
  · rw [if_pos hi] at hp
    rw [isk_at hi] at ef
    have hk := Option.some.inj ef
    have := (List.pairwise_iff_getElem.1 hu) (fnd k x.ks) (plc x k + j) hfl (by omega) (by omega)
    rw [← hk, e] at this
    exact this
  · rw [if_neg hi] at hp
    have hne : x.ks[fnd k x.ks] ≠ k := by
      intro q
      rw [q] at ef
      exact hi (by simp [isk, ef])
    have hk0 := sl_total hge hne
    by_cases hj0 : j = 0
    · subst hj0
      have e3 : x.ks[fnd k x.ks] = a := by
        have : plc x k + 0 = fnd k x.ks := by omega
        rw [this, ef] at e2
        exact Option.some.inj e2
      rw [← e3]; exact hk0
    · have := (List.pairwise_iff_getElem.1 hu) (fnd k x.ks) (plc x k + j) hfl (by omega) (by omega)
      rw [e] at this
      exact sl_trans hk0 this

/-- What stands ahead of the kid is ahead of the key; what stands behind it is behind. -/
theorem pre_ah (f : Nat → List Mk) {k : ByteArray} : ∀ (L : List Int) (KL : List ByteArray), KL.length = L.length → (∀ a ∈ KL, sl k a = false) → (pre f L KL).Pairwise R → Ah k (pre f L KL) := by
  intro L KL hl hk hp
  rcases List.eq_nil_or_concat KL with rfl | ⟨K0, kl, rfl⟩
  · obtain rfl : L = [] := List.eq_nil_of_length_eq_zero (by simpa using hl.symm)
    intro a ha; simp [pre] at ha
  · rcases List.eq_nil_or_concat L with rfl | ⟨L0, l, rfl⟩
    · simp at hl
    · have e : pre f (L0.concat l) (K0.concat kl) = (pre f L0 K0 ++ f l.toNat) ++ [(kl, none)] := by
        rw [List.concat_eq_append, List.concat_eq_append, pre_append f _ _ _ _ (by simp at hl; omega), pre_one]; simp
      rw [e] at hp ⊢
      rw [List.pairwise_append] at hp
      have hkl := hk kl (by simp)
      intro a ha v
      rcases List.mem_append.1 ha with ha | ha
      · have := hp.2.2 a ha (kl, none) (by simp)
        exact R_key (lt_le (R_none.1 this) hkl)
      · simp at ha; subst ha; exact R_se.2 hkl
theorem post_be (f : Nat → List Mk) {k : ByteArray} : ∀ (Rr : List Int) (KR : List ByteArray), KR.length = Rr.length → (∀ a ∈ KR, sl k a = true) → (post f KR Rr).Pairwise R → Be k (post f KR Rr)
  | [], [], _, _, _ => by intro c hc; simp [post] at hc
  | [], _ :: _, h, _, _ => by simp at h
  | _ :: _, [], h, _, _ => by simp at h
  | r :: Rr, kr :: KR, h, hk, hp => by
    have e : post f (kr :: KR) (r :: Rr) = (kr, none) :: (f r.toNat ++ post f KR Rr) := by simp [post]
    rw [e] at hp ⊢
    have h0 := hk kr (by simp)
    intro c hc
    rcases List.mem_cons.1 hc with rfl | hc
    · exact h0
    · have := (List.pairwise_cons.1 hp).1 c hc
      obtain ⟨c1, c2⟩ := c
      cases c2 with
      | none => exact sl_trans h0 (R_s.1 this)
      | some v => exact lt_le h0 (R_se.1 this)
theorem Ah.append {k : ByteArray} {A B : List Mk} (h : Ah k A) (g : Ah k B) : Ah k (A ++ B) := fun a ha => (List.mem_append.1 ha).elim (h a) (g a)
theorem Be.append {k : ByteArray} {A B : List Mk} (h : Be k A) (g : Be k B) : Be k (A ++ B) := fun a ha => (List.mem_append.1 ha).elim (h a) (g a)

/-- Keys of a node rise, where what it says stands in order. -/
theorem up_leaf {ks : List ByteArray} {vs : List Vl} (hl : vs.length = ks.length) (h : ((ks.zip vs).map mk).Pairwise R) : Up ks := by
  unfold Up
  rw [List.pairwise_map] at h
  have e : ks = (ks.zip vs).map Prod.fst := by rw [List.map_fst_zip (by omega)]
  rw [e, List.pairwise_map]
  exact h.imp (fun {a b} hab => R_e.1 hab)
theorem seps_sub (f : Nat → List Mk) : ∀ (K : List ByteArray) (C : List Int), K.length = C.length → List.Sublist (K.map fun k => ((k, none) : Mk)) (post f K C)
  | [], _, _ => by simp
  | k :: K, [], h => by simp at h
  | k :: K, c :: C, h => by
    have e : post f (k :: K) (c :: C) = (k, none) :: (f c.toNat ++ post f K C) := by simp [post]
    rw [e]
    exact List.Sublist.cons_cons _ ((seps_sub f K C (by simpa using h)).trans (List.sublist_append_right _ _))
theorem up_inner {f : Nat → List Mk} {ks : List ByteArray} {is : List Int} (hl : is.length = ks.length + 1) (h : (inmL f is ks).Pairwise R) : Up ks := by
  obtain ⟨c, r, rfl⟩ : ∃ c r, is = c :: r := by cases is with | nil => simp at hl | cons c r => exact ⟨c, r, rfl⟩
  have hs := (seps_sub f ks r (by simpa using hl.symm)).trans (List.sublist_append_right (f c.toNat) _)
  have := h.sublist hs
  rw [List.pairwise_map] at this
  exact this.imp (fun {a b} hab => R_s.1 hab)
theorem up_of {M : Pm} {d : Nat} {x : Nd} (hw : WfN M d x) (h : (fmN M d x).Pairwise R) : Up x.ks := by
  cases d with
  | zero => exact up_leaf (hw.2.lv hw.1).1 h
  | succ d => exact up_inner (f := fm M d) (hw.2.1.li hw.1).1 h
end Go.Proofs.YtncfpjccfmolgaaGreatDoor.B

namespace Go.Proofs.YtncfpjccfmolgaaGreatDoor.B
open Go.Proofs.YtncfpjccfmolgaaGreatDoor.N

theorem num_one {n : Nat} (h : n ≤ 120) : (numL n).length = 1 := by rw [numL_last (by omega)]; rfl
theorem put_leaf {x : Nd} (g : N.Good x) (hl : x.leaf = true) : x.put.length = 1 + ksum x.ks + vsum x.vs := by
  rw [put_len, tot_leaf hl (g.lv hl).1 _ (Nat.le_refl _), List.take_length]
  have e : x.vs.take x.ks.length = x.vs := by rw [← (g.lv hl).1, List.take_length]
  rw [e]
  unfold Nd.head
  rw [if_pos hl, List.length_append, num_one g.few]
  simp; omega
theorem put_inner {x : Nd} (g : N.Good x) (hl : x.leaf = false) : x.put.length = 1 + ksum x.ks + isum x.is := by
  have hi := (g.li hl).1
  rw [put_len, tot_inner hl hi _ (Nat.le_refl _), List.take_length]
  obtain ⟨c, r, e⟩ : ∃ c r, x.is = c :: r := by cases h : x.is with | nil => rw [h] at hi; simp at hi | cons c r => exact ⟨c, r, rfl⟩
  rw [e] at hi
  have e1 : ((x.is.drop 1).take x.ks.length) = r := by rw [e]; simp at hi; simp [← hi]
  rw [e1, e]
  unfold Nd.head
  rw [if_neg (by rw [hl]; decide), List.length_append, num_one g.few, e]
  simp [isum]
  omega
theorem key_pos (k : ByteArray) : 1 + k.size ≤ (keyN k).length := by
  unfold keyN
  rw [List.length_append, un_length]
  have := num_pos k.size
  omega
theorem empty_size {k : ByteArray} (h : k.size = 0) : k = ⟨#[]⟩ := by
  obtain ⟨a⟩ := k
  have : a.size = 0 := h
  rw [Array.eq_empty_of_size_eq_zero this]
theorem sl_pos {a b : ByteArray} (h : sl a b = true) : 1 ≤ b.size := by
  rcases Nat.eq_zero_or_pos b.size with e | e
  · rw [empty_size e] at h
    unfold sl at h
    have : (⟨#[]⟩ : ByteArray).toList = [] := by rw [toList_eq]
    rw [this] at h
    cases a.toList <;> simp [Op.bytesLess] at h
  · exact e
theorem ksum_pos : ∀ (ks : List ByteArray), (∀ k ∈ ks, 1 ≤ k.size) → 2 * ks.length ≤ ksum ks
  | [], _ => by simp [ksum]
  | k :: r, h => by
    have ih := ksum_pos r (fun q hq => h q (List.mem_cons_of_mem _ hq))
    have h0 := h k List.mem_cons_self
    have h1 := key_pos k
    have e : ksum (k :: r) = (keyN k).length + ksum r := by simp [ksum]
    rw [e, List.length_cons]
    omega
theorem ksum_up {ks : List ByteArray} (h : Up ks) : 2 * ks.length ≤ ksum ks + 1 := by
  cases ks with
  | nil => simp
  | cons k r =>
    have := ksum_pos r (fun q hq => sl_pos ((List.pairwise_cons.1 h).1 q hq))
    have h1 := key_pos k
    have e : ksum (k :: r) = (keyN k).length + ksum r := by simp [ksum]
    rw [e, List.length_cons]
    omega
theorem isum_pos : ∀ (is : List Int), is.length ≤ isum is
  | [] => by simp
  | k :: r => by
    have ih := isum_pos r
    have h1 := num_pos k.toNat
    have e : isum (k :: r) = (numL k.toNat).length + isum r := by simp [isum]
    rw [e, List.length_cons]; omega
theorem vsum_pos : ∀ (vs : List Vl), 2 * vs.length ≤ vsum vs
  | [] => by simp
  | v :: r => by
    have ih := vsum_pos r
    have h1 : 2 ≤ (valN v).length := by
      unfold valN
      split
      · rw [List.length_append, List.length_append]
        have := num_pos 0
        have := num_pos v.d.size
        omega
      · rw [List.length_append, List.length_append]
        have := num_pos 1
        have := num_pos v.p.toNat
        omega
    have e : vsum (v :: r) = (valN v).length + vsum r := by simp [vsum]
    rw [e, List.length_cons]; omega
/-- Few keys are in few bytes. -/
theorem few_of {x : Nd} (g : N.Good x) (hu : Up x.ks) : 3 * x.ks.length ≤ x.put.length := by
  have h1 := ksum_up hu
  cases hl : x.leaf with
  | true =>
    have h2 := vsum_pos x.vs
    rw [(g.lv hl).1] at h2
    rw [put_leaf g hl]; omega
  | false =>
    have h2 := isum_pos x.is
    rw [(g.li hl).1] at h2
    rw [put_inner g hl]; omega
theorem ksum_le (ks : List ByteArray) (h : ∀ k ∈ ks, k.size ≤ 64) : ksum ks ≤ 65 * ks.length := by
  induction ks with
  | nil => simp [ksum]
  | cons a r ih =>
    have h1 := keyN_length a (h a List.mem_cons_self)
    have h2 := ih (fun i hi => h i (List.mem_cons_of_mem _ hi))
    have e : ksum (a :: r) = (keyN a).length + ksum r := by simp [ksum]
    rw [e, List.length_cons]
    omega

/-- Two nodes as one. -/
def jn (a : Nd) (k : ByteArray) (b : Nd) : Nd := if a.leaf = true then ⟨true, a.ks ++ b.ks, a.vs ++ b.vs, []⟩ else ⟨false, a.ks ++ ([k] ++ b.ks), [], a.is ++ b.is⟩
theorem jn_leaf {a : Nd} (h : a.leaf = true) (k : ByteArray) (b : Nd) : jn a k b = ⟨true, a.ks ++ b.ks, a.vs ++ b.vs, []⟩ := by unfold jn; rw [if_pos h]
theorem jn_inner {a : Nd} (h : a.leaf = false) (k : ByteArray) (b : Nd) : jn a k b = ⟨false, a.ks ++ ([k] ++ b.ks), [], a.is ++ b.is⟩ := by unfold jn; rw [if_neg (by rw [h]; decide)]
theorem jn_good {a b : Nd} {k : ByteArray} (ga : N.Good a) (gb : N.Good b) (hl : b.leaf = a.leaf) (hk : k.size ≤ 64) (hn : a.ks.length + b.ks.length + 1 ≤ 120) : N.Good (jn a k b) := by
  cases h : a.leaf with
  | true =>
    rw [jn_leaf h]
    have h2 : b.leaf = true := hl.trans h
    refine ⟨by show (a.ks ++ b.ks).length ≤ 120; rw [List.length_append]; omega, fun q hq => (List.mem_append.1 hq).elim (ga.small q) (gb.small q), fun _ => ⟨?_, rfl⟩, (fun e => by cases e), fun q hq => (List.mem_append.1 hq).elim (ga.ok q) (gb.ok q), (fun i hi => by cases hi)⟩
    show (a.vs ++ b.vs).length = (a.ks ++ b.ks).length
    rw [List.length_append, List.length_append, (ga.lv h).1, (gb.lv h2).1]
  | false =>
    rw [jn_inner h]
    have h2 : b.leaf = false := hl.trans h
    refine ⟨by show (a.ks ++ ([k] ++ b.ks)).length ≤ 120; simp; omega, ?_, (fun e => by cases e), fun _ => ⟨?_, rfl⟩, (fun v hv => by cases hv), fun q hq => (List.mem_append.1 hq).elim (ga.ik q) (gb.ik q)⟩
    · intro q hq
      rcases List.mem_append.1 hq with hq | hq
      · exact ga.small q hq
      · rcases List.mem_append.1 hq with hq | hq
        · simp at hq; rw [hq]; exact hk
        · exact gb.small q hq
    · show (a.is ++ b.is).length = (a.ks ++ ([k] ++ b.ks)).length + 1
      rw [List.length_append, (ga.li h).1, (gb.li h2).1]; simp; omega
theorem jn_put {a b : Nd} {k : ByteArray} (ga : N.Good a) (gb : N.Good b) (hl : b.leaf = a.leaf) (hk : k.size ≤ 64) (hn : a.ks.length + b.ks.length + 1 ≤ 120) :
    (jn a k b).put.length + 1 ≤ a.put.length + b.put.length + (if a.leaf = true then 0 else 65) := by
  have g := jn_good ga gb hl hk hn
  cases h : a.leaf with
  | true =>
    have h2 : b.leaf = true := hl.trans h
    rw [put_leaf g (by rw [jn_leaf h]), put_leaf ga h, put_leaf gb h2, jn_leaf h]
    show 1 + ksum (a.ks ++ b.ks) + vsum (a.vs ++ b.vs) + 1 ≤ _
    rw [ksum_app, vsum_app, if_pos rfl]; omega
  | false =>
    have h2 : b.leaf = false := hl.trans h
    rw [put_inner g (by rw [jn_inner h]), put_inner ga h, put_inner gb h2, jn_inner h]
    show 1 + ksum (a.ks ++ ([k] ++ b.ks)) + isum (a.is ++ b.is) + 1 ≤ _
    have := keyN_length k hk
    rw [ksum_app, ksum_app, isum_app, ksum_one, if_neg (by decide)]; omega
end Go.Proofs.YtncfpjccfmolgaaGreatDoor.B

namespace Go.Proofs.YtncfpjccfmolgaaGreatDoor.B
open Go.Proofs.YtncfpjccfmolgaaGreatDoor.N

theorem jn_wf {M : Pm} {d : Nat} {a b : Nd} {k : ByteArray} (wa : WfN M d a) (wb : WfN M d b) (hk : k.size ≤ 64) (hn : a.ks.length + b.ks.length + 1 ≤ 120) : WfN M d (jn a k b) := by
  have hl : b.leaf = a.leaf := by rw [wa.leaf, wb.leaf]
  have g := jn_good wa.good wb.good hl hk hn
  cases d with
  | zero => exact ⟨by rw [jn_leaf wa.1], g⟩
  | succ d =>
    refine ⟨by rw [jn_inner wa.1], g, ?_⟩
    rw [jn_inner wa.1]
    intro c hc
    rcases List.mem_append.1 hc with hc | hc
    · exact wa.2.2 c hc
    · exact wb.2.2 c hc
theorem jn_fm {M : Pm} {d : Nat} {a b : Nd} {k : ByteArray} (wa : WfN M d a) (wb : WfN M d b) : fmN M d (jn a k b) = fmN M d a ++ ((if d = 0 then [] else [(k, none)]) ++ fmN M d b) := by
  cases d with
  | zero =>
    rw [jn_leaf wa.1, fmN_leaf, fmN_leaf, fmN_leaf]
    unfold leafm
    show ((a.ks ++ b.ks).zip (a.vs ++ b.vs)).map _ = _
    rw [List.zip_append ((wa.2.lv wa.1).1).symm]
    simp
  | succ d =>
    rw [jn_inner wa.1, fmN_inner, fmN_inner, fmN_inner]
    unfold inm
    show inmL (fm M d) (a.is ++ b.is) (a.ks ++ ([k] ++ b.ks)) = _
    rw [inmL_join _ _ _ _ _ _ (wa.2.1.li wa.1).1.symm (wb.2.1.li wb.1).1.symm]
    simp
theorem jn_pg {M : Pm} {d : Nat} {a b : Nd} {k : ByteArray} (wa : WfN M d a) : pgN M d (jn a k b) = pgN M d a ++ pgN M d b := by
  cases d with
  | zero => rfl
  | succ d => rw [jn_inner wa.1, pgN_inner, pgN_inner, pgN_inner]; exact List.flatMap_append

end Go.Proofs.YtncfpjccfmolgaaGreatDoor.B

namespace Go.Proofs.YtncfpjccfmolgaaGreatDoor.B
open Go.Proofs.YtncfpjccfmolgaaGreatDoor.N

def Ext (M M' : Pm) : Prop := ∀ q z, M q = some z → M' q = some z
theorem Ext.refl (M : Pm) : Ext M M := fun _ _ h => h
theorem Ext.trans {M M' M'' : Pm} (h : Ext M M') (k : Ext M' M'') : Ext M M'' := fun q z e => k q z (h q z e)

theorem pgN_some {M : Pm} : ∀ (d : Nat) (x : Nd), WfN M d x → ∀ q ∈ pgN M d x, ∃ z, M q = some z
  | 0, _, _, q, h => by simp [pgN] at h
  | d + 1, x, w, q, h => by
    rw [pgN_inner] at h
    obtain ⟨c, hc, hq⟩ := List.mem_flatMap.1 h
    obtain ⟨y, hy, _, _, wy⟩ := w.2.2 c hc
    rw [pg_some hy] at hq
    rcases List.mem_cons.1 hq with rfl | hq
    · exact ⟨y, hy⟩
    · exact pgN_some d y wy q hq
theorem ext_same {M M' : Pm} (h : Ext M M') {d : Nat} {x : Nd} (w : WfN M d x) : pgN M' d x = pgN M d x ∧ fmN M' d x = fmN M d x ∧ WfN M' d x := by
  obtain ⟨a, b, c⟩ := pgN_same (M := M) (M' := M') d x (fun q hq => by obtain ⟨z, hz⟩ := pgN_some d x w q hq; rw [hz, h q z hz])
  exact ⟨a, b, c w⟩
/-- A new page. -/
def pt (M : Pm) (n : Nat) (y : Nd) : Pm := fun k => if k = n then some y else M k
theorem pt_ext {M : Pm} {n : Nat} {y : Nd} (h : M n = none) : Ext M (pt M n y) := by
  intro q z hz
  unfold pt
  rw [if_neg (by rintro rfl; rw [h] at hz; cases hz)]
  exact hz
theorem pt_same (M : Pm) (n : Nat) (y : Nd) : pt M n y n = some y := by unfold pt; rw [if_pos rfl]
def us (M : Pm) (q : Nat) : Nat := if (M q).isSome = true then 1 else 0
theorem us_pt {M : Pm} {n : Nat} {y : Nd} (h : M n = none) (q : Nat) : us (pt M n y) q = us M q + [n].count q := by
  unfold us pt
  by_cases e : q = n
  · subst e; simp [h]
  · rw [if_neg e]; simp [Ne.symm e]

def pgs (M : Pm) (d : Nat) (C : List Int) : List Nat := C.flatMap fun c => pg M d c.toNat
theorem pgs_append (M : Pm) (d : Nat) (A B : List Int) : pgs M d (A ++ B) = pgs M d A ++ pgs M d B := List.flatMap_append
/-- What is under way at a depth, for a subtree that was in a page. -/
structure Lv (M0 M : Pm) (d p : Nat) (wp : List Nat) (now : Nd) (joined added : List Nat) (A C : List Mk) (g : List En → List En) : Prop where
  ext : Ext M0 M
  used : ∀ q, us M q = us M0 q + added.count q
  wf : WfN M d now
  ord : (A ++ fmN M d now ++ C).Pairwise R
  cn : con (fmN M d now) = g (con (fm M0 d p))
  cnt : ∀ q, (pg M0 d p).count q + added.count q = (pgN M d now).count q + wp.count q + joined.count q
  size : now.put.length ≤ (if d = 0 then 352 else 308)

/-- What stands for a piece of the node above. -/
structure Sg (M0 M : Pm) (d : Nat) (x : Nd) (i j : Nat) (y : Nd) (wp joined added : List Nat) (A C : List Mk) (g : List En → List En) : Prop where
  ext : Ext M0 M
  used : ∀ q, us M q = us M0 q + added.count q
  wf : WfN M d y
  ord : (A ++ pre (fm M0 d) (x.is.take i) (x.ks.take i) ++ fmN M d y ++ (post (fm M0 d) (x.ks.drop j) (x.is.drop (j + 1)) ++ C)).Pairwise R
  cn : con (pre (fm M0 d) (x.is.take i) (x.ks.take i)) ++ con (fmN M d y) ++ con (post (fm M0 d) (x.ks.drop j) (x.is.drop (j + 1))) = g (con (fmN M0 (d + 1) x))
  cnt : ∀ q, (pgN M0 (d + 1) x).count q + added.count q = (pgs M0 d (x.is.take i)).count q + (pgN M d y).count q + (pgs M0 d (x.is.drop (j + 1))).count q + wp.count q + joined.count q
  ij : i ≤ j
  jl : j ≤ x.ks.length
  size : y.put.length ≤ (if d = 0 then 352 else 380)
  ne : y.ks ≠ []

/-- A node, parted at a kid. -/
theorem at_kid {x : Nd} {i : Nat} {c : Int} (hi : x.is[i]? = some c) : x.is = x.is.take i ++ [c] ++ x.is.drop (i + 1) := by
  obtain ⟨h1, h2⟩ := List.getElem?_eq_some_iff.1 hi
  have := List.getElem_cons_drop h1
  rw [h2] at this
  rw [List.append_assoc, List.singleton_append, this, List.take_append_drop]
theorem fm_kid {M : Pm} {d : Nat} {x : Nd} (g : N.Good x) (hl : x.leaf = false) {i : Nat} {c : Int} (hi : x.is[i]? = some c) : fmN M (d + 1) x = pre (fm M d) (x.is.take i) (x.ks.take i) ++ fm M d c.toNat ++ post (fm M d) (x.ks.drop i) (x.is.drop (i + 1)) := by
  have hn := (g.li hl).1
  have hlt := (List.getElem?_eq_some_iff.1 hi).1
  have h := inmL_seg (fm M d) (x.is.take i) (x.ks.take i) [c] [] (x.is.drop (i + 1)) (x.ks.drop i) (by rw [List.length_take, List.length_take]; omega) rfl
  rw [← at_kid hi, List.append_nil, List.take_append_drop, inmL_one] at h
  exact h

/-- What is Low is joined with the one ahead of it. -/
theorem Lv.ahead {M0 M : Pm} {d p b : Nat} {wp joined added : List Nat} {now beside x : Nd} {A C : List Mk} {g : List En → List En} {i : Nat} {c cb : Int} {k : ByteArray} (w0 : WfN M0 (d + 1) x) (hi : x.is[i + 1]? = some c) (hc : c.toNat = p) (hb : x.is[i]? = some cb) (hcb : cb.toNat = b) (hk : x.ks[i]? = some k) (hM : M0 b = some beside)
    (h : Lv M0 M d p wp now joined added (A ++ pre (fm M0 d) (x.is.take (i + 1)) (x.ks.take (i + 1))) (post (fm M0 d) (x.ks.drop (i + 1)) (x.is.drop (i + 1 + 1)) ++ C) g) (hlow : now.put.length < 79)
    (hg : g (con (fmN M0 (d + 1) x)) = con (pre (fm M0 d) (x.is.take (i + 1)) (x.ks.take (i + 1))) ++ g (con (fm M0 d p)) ++ con (post (fm M0 d) (x.ks.drop (i + 1)) (x.is.drop (i + 1 + 1)))) :
    Sg M0 M d x i (i + 1) (B.jn beside k now) wp (b :: joined) added A C g ∧ WfN M d beside ∧ M b = some beside := by
  have hn := (w0.2.1.li w0.1).1
  have hlt := (List.getElem?_eq_some_iff.1 hi).1
  obtain ⟨y, hy, hne, hsz, wb0⟩ := w0.2.2 cb (List.mem_of_getElem? hb)
  rw [hcb, hM] at hy
  obtain rfl := Option.some.inj hy
  obtain ⟨eb1, eb2, wb⟩ := ext_same h.ext wb0
  have hks : k.size ≤ 64 := w0.2.1.small k (List.mem_of_getElem? hk)
  have efb : fm M0 d b = fmN M d beside := by rw [fm_some hM, eb2]
  have epb : pg M0 d b = b :: pgN M d beside := by rw [pg_some hM, eb1]
  have e1 : pre (fm M0 d) (x.is.take (i + 1)) (x.ks.take (i + 1)) = pre (fm M0 d) (x.is.take i) (x.ks.take i) ++ fmN M d beside ++ [(k, none)] := by
    rw [List.take_add_one, List.take_add_one, hb, hk, Option.toList_some, Option.toList_some, pre_append _ _ _ _ _ (by rw [List.length_take, List.length_take]; omega), pre_one, hcb, efb]
    simp
  have ho := h.ord
  rw [e1] at ho
  have ub : Up beside.ks := up_of wb (by
    have s : List.Sublist (fmN M d beside) (A ++ (pre (fm M0 d) (x.is.take i) (x.ks.take i) ++ fmN M d beside ++ [(k, none)]) ++ fmN M d now ++ (post (fm M0 d) (x.ks.drop (i + 1)) (x.is.drop (i + 1 + 1)) ++ C)) := by
      refine ((List.sublist_append_right _ _).trans (List.sublist_append_left _ _)).trans ((List.sublist_append_right A _).trans ((List.sublist_append_left _ _).trans (List.sublist_append_left _ _)))
    exact ho.sublist s)
  have un : Up now.ks := up_of h.wf (by
    refine ho.sublist ((List.sublist_append_right _ _).trans (List.sublist_append_left _ _)))
  have f1 := few_of wb.good ub
  have f2 := few_of h.wf.good un
  have hnn : beside.ks.length + now.ks.length + 1 ≤ 120 := by omega
  have wj := jn_wf (k := k) wb h.wf hks hnn
  have hput := jn_put (k := k) wb.good h.wf.good (by rw [wb.leaf, h.wf.leaf]) hks hnn
  refine ⟨⟨h.ext, h.used, wj, ?_, ?_, ?_, by omega, by omega, ?_, ?_⟩, wb, h.ext b _ hM⟩
  · rw [jn_fm wb h.wf]
    refine ho.sublist ?_
    have e : A ++ (pre (fm M0 d) (x.is.take i) (x.ks.take i) ++ fmN M d beside ++ [(k, none)]) ++ fmN M d now ++ (post (fm M0 d) (x.ks.drop (i + 1)) (x.is.drop (i + 1 + 1)) ++ C) = A ++ pre (fm M0 d) (x.is.take i) (x.ks.take i) ++ (fmN M d beside ++ ([(k, none)] ++ fmN M d now)) ++ (post (fm M0 d) (x.ks.drop (i + 1)) (x.is.drop (i + 1 + 1)) ++ C) := by simp
    rw [e]
    refine List.Sublist.append (List.Sublist.append (List.Sublist.refl _) (List.Sublist.append (List.Sublist.refl _) (List.Sublist.append ?_ (List.Sublist.refl _)))) (List.Sublist.refl _)
    split
    · exact List.nil_sublist _
    · exact List.Sublist.refl _
  · rw [hg, ← h.cn, e1, jn_fm wb h.wf]
    have : B.con ((if d = 0 then [] else [(k, none)]) ++ fmN M d now) = B.con (fmN M d now) := by split <;> simp [B.con]
    rw [con_append (fmN M d beside), this]
    simp [B.con]
  · intro q
    have := h.cnt q
    have e : pgN M0 (d + 1) x = pgs M0 d (x.is.take i) ++ pg M0 d b ++ pg M0 d p ++ pgs M0 d (x.is.drop (i + 1 + 1)) := by
      have h0 : pgN M0 (d + 1) x = pgs M0 d x.is := rfl
      rw [h0]
      conv => lhs; rw [at_kid hi]
      rw [List.take_add_one, hb, Option.toList_some, pgs_append, pgs_append, pgs_append]
      simp [pgs, hc, hcb]
    rw [e, jn_pg wb, epb]
    simp only [List.count_append, List.count_cons]
    omega
  · have hs := h.size
    have hbl := wb.leaf
    by_cases hd : d = 0
    · subst hd
      rw [if_pos (by rw [hbl]; rfl)] at hput
      simp only [if_true]
      omega
    · rw [if_neg (by rw [hbl]; simpa using hd)] at hput
      rw [if_neg hd]
      omega
  · intro e
    cases hl : beside.leaf with
    | true => rw [jn_leaf hl] at e; simp at e; exact hne e.1
    | false => rw [jn_inner hl] at e; simp at e

end Go.Proofs.YtncfpjccfmolgaaGreatDoor.B

namespace Go.Proofs.YtncfpjccfmolgaaGreatDoor.B
open Go.Proofs.YtncfpjccfmolgaaGreatDoor.N

/-- A tree: its first node's page, how deep it is; all pages that are used are its. -/
structure Tr (M : Pm) (d n : Nat) : Prop where
  wf : Wf M d n
  ord : (fm M d n).Pairwise R
  cnt : ∀ q, (pg M d n).count q = us M q

theorem us_le (M : Pm) (q : Nat) : us M q ≤ 1 := by unfold us; split <;> omega
end Go.Proofs.YtncfpjccfmolgaaGreatDoor.B

namespace Go.Proofs.YtncfpjccfmolgaaGreatDoor.B
open Go.Proofs.YtncfpjccfmolgaaGreatDoor.N

/-- A node on the way to a key: its page, the place of the kid. -/
structure Stp where
  page : Nat
  x : Nd
  kid : Nat

def nodeAt (M : Pm) (n : Nat) : Nd := (M n).getD ⟨true, [], [], []⟩
theorem nodeAt_some {M : Pm} {n : Nat} {y : Nd} (h : M n = some y) : nodeAt M n = y := by unfold nodeAt; rw [h]; rfl
def stpAt (M : Pm) (key : ByteArray) (n : Nat) : Stp := ⟨n, nodeAt M n, plc (nodeAt M n) key⟩
def nxt (M : Pm) (key : ByteArray) (n : Nat) : Nat := ((nodeAt M n).is[plc (nodeAt M n) key]?.getD 0).toNat
def path (M : Pm) (key : ByteArray) : Nat → Nat → List Stp
  | 0, n => [stpAt M key n]
  | d + 1, n => stpAt M key n :: path M key d (nxt M key n)
theorem path_length (M : Pm) (key : ByteArray) : ∀ d n, (path M key d n).length = d + 1
  | 0, _ => rfl
  | d + 1, n => by rw [path, List.length_cons, path_length M key d]
theorem path_zero (M : Pm) (key : ByteArray) (d n : Nat) : (path M key d n)[0]? = some (stpAt M key n) := by cases d <;> rfl

/-- What stands ahead of the kids of a way, and behind them. -/
def cA (M : Pm) : Nat → List Stp → List Mk
  | _, [] => []
  | D, s :: r => pre (fm M (D - 1)) (s.x.is.take s.kid) (s.x.ks.take s.kid) ++ cA M (D - 1) r
def cC (M : Pm) : Nat → List Stp → List Mk
  | _, [] => []
  | D, s :: r => cC M (D - 1) r ++ post (fm M (D - 1)) (s.x.ks.drop s.kid) (s.x.is.drop (s.kid + 1))
/-- A node of the way. -/
structure Pf (M : Pm) (key : ByteArray) (d : Nat) (s : Stp) (A C : List Mk) : Prop where
  mem : M s.page = some s.x
  ne : s.x.ks ≠ []
  size : s.x.put.length ≤ 237
  wf : WfN M d s.x
  kid : s.kid = plc s.x key
  ah : Ah key A
  be : Be key C
  ord : (A ++ fmN M d s.x ++ C).Pairwise R

theorem Pf.up {M : Pm} {key : ByteArray} {d : Nat} {s : Stp} {A C : List Mk} (h : Pf M key d s A C) : Up s.x.ks :=
  up_of h.wf (h.ord.sublist ((List.sublist_append_right A _).trans (List.sublist_append_left _ C)))
/-- The kid on the way, in its place. -/
theorem Pf.next {M : Pm} {key : ByteArray} {d : Nat} {s : Stp} {A C : List Mk} (h : Pf M key (d + 1) s A C) : ∃ c : Int, s.x.is[s.kid]? = some c ∧
    Pf M key d (stpAt M key c.toNat) (A ++ pre (fm M d) (s.x.is.take s.kid) (s.x.ks.take s.kid)) (post (fm M d) (s.x.ks.drop s.kid) (s.x.is.drop (s.kid + 1)) ++ C) := by
  have hn := (h.wf.2.1.li h.wf.1).1
  have hk : s.kid ≤ s.x.ks.length := by rw [h.kid]; exact plc_le _ _
  have hi : s.x.is[s.kid]? = some (s.x.is[s.kid]'(by omega)) := List.getElem?_eq_getElem (by omega)
  refine ⟨_, hi, ?_⟩
  obtain ⟨y, hy, a, b, c⟩ := h.wf.2.2 _ (List.mem_of_getElem? hi)
  have ho := h.ord
  rw [fm_kid h.wf.2.1 h.wf.1 hi, fm_some hy] at ho
  have ho2 : (A ++ pre (fm M d) (s.x.is.take s.kid) (s.x.ks.take s.kid) ++ fmN M d y ++ (post (fm M d) (s.x.ks.drop s.kid) (s.x.is.drop (s.kid + 1)) ++ C)).Pairwise R := by simpa using ho
  have es : stpAt M key (s.x.is[s.kid]'(by omega)).toNat = ⟨(s.x.is[s.kid]'(by omega)).toNat, y, plc y key⟩ := by unfold stpAt; rw [nodeAt_some hy]
  rw [es]
  refine ⟨hy, a, b, c, rfl, h.ah.append ?_, Be.append ?_ h.be, ho2⟩
  · refine pre_ah _ _ _ (by rw [List.length_take, List.length_take]; omega) (by rw [h.kid]; exact plc_below key) (ho2.sublist ?_)
    exact ((List.sublist_append_right A _).trans (List.sublist_append_left _ _)).trans (List.sublist_append_left _ _)
  · refine post_be _ _ _ (by rw [List.length_drop, List.length_drop]; omega) (by rw [h.kid]; exact plc_above h.up key) (ho2.sublist ?_)
    exact (List.sublist_append_left _ C).trans (List.sublist_append_right _ _)
theorem Pf.nxt {M : Pm} {key : ByteArray} {d : Nat} {s : Stp} {A C : List Mk} (h : Pf M key (d + 1) s A C) {c : Int} (hc : s.x.is[s.kid]? = some c) : B.nxt M key s.page = c.toNat := by
  unfold B.nxt
  rw [nodeAt_some h.mem, ← h.kid, hc]; rfl

theorem path_pf {M : Pm} {key : ByteArray} : ∀ (d n : Nat) (A C : List Mk), Pf M key d (stpAt M key n) A C → ∀ (k : Nat) (s : Stp), (path M key d n)[k]? = some s → k ≤ d ∧ Pf M key (d - k) s (A ++ cA M d ((path M key d n).take k)) (cC M d ((path M key d n).take k) ++ C)
  | 0, n, A, C, h, 0, s, e => by
    simp [path] at e; subst e
    exact ⟨Nat.le_refl _, by simpa [cA, cC] using h⟩
  | 0, n, A, C, h, k + 1, s, e => by simp [path] at e
  | d + 1, n, A, C, h, 0, s, e => by
    simp [path] at e; subst e
    exact ⟨by omega, by simpa [cA, cC] using h⟩
  | d + 1, n, A, C, h, k + 1, s, e => by
    obtain ⟨c, hc, h2⟩ := h.next
    have en : B.nxt M key n = c.toNat := h.nxt hc
    rw [path, en] at e ⊢
    simp only [List.getElem?_cons_succ] at e
    obtain ⟨a, b⟩ := path_pf d c.toNat _ _ h2 k s e
    refine ⟨by omega, ?_⟩
    rw [List.take_succ_cons, cA, cC]
    rw [show d + 1 - (k + 1) = d - k by omega, show d + 1 - 1 = d by omega]
    simpa using b
/-- The pages of a way, one below the other. -/
theorem path_next {M : Pm} {key : ByteArray} : ∀ (d n : Nat) (A C : List Mk), Pf M key d (stpAt M key n) A C → ∀ (k : Nat) (s s' : Stp), (path M key d n)[k]? = some s → (path M key d n)[k + 1]? = some s' → ∃ c : Int, s.x.is[s.kid]? = some c ∧ s'.page = c.toNat
  | 0, n, A, C, h, k, s, s', _, e => by simp [path] at e
  | d + 1, n, A, C, h, 0, s, s', e, e' => by
    obtain ⟨c, hc, h2⟩ := h.next
    have en : B.nxt M key n = c.toNat := h.nxt hc
    rw [path, en] at e e'
    simp at e; subst e
    simp only [List.getElem?_cons_succ, path_zero] at e'
    obtain rfl := Option.some.inj e'
    exact ⟨c, hc, rfl⟩
  | d + 1, n, A, C, h, k + 1, s, s', e, e' => by
    obtain ⟨c, hc, h2⟩ := h.next
    have en : B.nxt M key n = c.toNat := h.nxt hc
    rw [path, en] at e e'
    simp only [List.getElem?_cons_succ] at e e'
    exact path_next d c.toNat _ _ h2 k s s' e e'
end Go.Proofs.YtncfpjccfmolgaaGreatDoor.B

namespace Go.Proofs.YtncfpjccfmolgaaGreatDoor.B
open Go.Proofs.YtncfpjccfmolgaaGreatDoor.N

/-- What a key has. -/
def got (k : ByteArray) (l : List En) : Option Vl := (l.find? fun e => decide (e.1 = k)).map (·.2)
theorem got_ctx {k : ByteArray} {A B C : List En} (ha : ∀ e ∈ A, sl e.1 k = true) (hc : ∀ e ∈ C, sl k e.1 = true) : got k (A ++ B ++ C) = got k B := by
  unfold got
  have h1 : A.find? (fun e => decide (e.1 = k)) = none := List.find?_eq_none.2 (fun e he => by
    intro q
    have q' : e.1 = k := by simpa using q
    have := ha e he; rw [q', sl_irrefl] at this; cases this)
  have h3 : C.find? (fun e => decide (e.1 = k)) = none := List.find?_eq_none.2 (fun e he => by
    intro q
    have q' : e.1 = k := by simpa using q
    have := hc e he; rw [q', sl_irrefl] at this; cases this)
  rw [List.append_assoc, List.find?_append, h1, List.find?_append, h3]
  simp
theorem got_leaf {k : ByteArray} {ks : List ByteArray} {vs : List Vl} (hu : Up ks) (hl : vs.length = ks.length) : got k (ks.zip vs) = if isk k ks = true then some (oldV ks vs k) else none := by
  obtain ⟨l1, m0, l3, e, h1, h3, h4, _, _⟩ := leaf_split k ⟨⟨#[]⟩, -1, 0⟩ ks vs hu hl
  rw [e, got_ctx h1 h3]
  rcases h4 with ⟨h, rfl⟩ | ⟨h, rfl⟩
  · rw [if_pos h]; simp [got]
  · rw [if_neg (by rw [h]; decide)]; rfl
/-- What a key has in a tree stands in the leaf at the end of its way. -/
theorem path_got {M : Pm} {key : ByteArray} : ∀ (d n : Nat) (A C : List Mk), Pf M key d (stpAt M key n) A C → ∀ (s : Stp), (path M key d n)[d]? = some s → got key (con (fm M d n)) = if isk key s.x.ks = true then some (oldV s.x.ks s.x.vs key) else none
  | 0, n, A, C, h, s, e => by
    simp [path] at e; subst e
    have hm : M n = some (stpAt M key n).x := h.mem
    rw [fm_some hm, fmN_leaf, con_leaf]
    exact got_leaf h.up (h.wf.2.lv h.wf.1).1
  | d + 1, n, A, C, h, s, e => by
    obtain ⟨c, hc, h2⟩ := h.next
    have en : B.nxt M key n = c.toNat := h.nxt hc
    rw [path, en] at e
    simp only [List.getElem?_cons_succ] at e
    rw [← path_got d c.toNat _ _ h2 s e]
    have hm : M n = some (stpAt M key n).x := h.mem
    rw [fm_some hm, fm_kid h.wf.2.1 h.wf.1 hc, con_append, con_append]
    exact got_ctx (Ah.con (fun a ha => h2.ah a (List.mem_append_right _ ha))) (Be.con (fun a ha => h2.be a (List.mem_append_left _ ha)))

/-- A tree that has these entries; its first node's page (-1: it is empty). -/
def Tree (M : Pm) (root : Int) (l : List En) : Prop := (root = -1 ∧ l = [] ∧ ∀ q, M q = none) ∨ ∃ d n : Nat, root = (n : Int) ∧ Tr M d n ∧ con (fm M d n) = l

end Go.Proofs.YtncfpjccfmolgaaGreatDoor.B

namespace Go.Proofs.YtncfpjccfmolgaaGreatDoor.N
open Go.ChangeShapes Go.WideShapes Go.ChangeAt Go.RowKit

/-- All other blocks are as they were. -/
structure Og (b : Nat) (w w' : World) : Prop where
  out : w.grownBy w' (some b)

theorem Og.trans {B : Nat} {a b c : World} (h : Og B a b) (k : Og B b c) : Og B a c :=
  ⟨k.out.os.trans h.out.os, k.out.tape.trans h.out.tape, k.out.output.trans h.out.output, Nat.le_trans h.out.size k.out.size, fun i hi hne => (k.out.block i (Nat.lt_of_lt_of_le hi h.out.size) hne).trans (h.out.block i hi hne)⟩
theorem Og.set (b j : Nat) (w : World) (v : Value) : Og b w (w.setCell ⟨b, j, none⟩ v) := ⟨grown_set w ⟨b, j, none⟩ v⟩
theorem Kept.og {w w' : World} (h : Kept w w') (b : Nat) : Og b w w' := ⟨h.grown _⟩
theorem C4.og {w w' : World} {c b : Nat} {t : TypeId} {a0 a1 a2 a3 : Value} (k : C4 w b t a0 a1 a2 a3) (h : Og c w w') (hb : b ≠ c) : C4 w' b t a0 a1 a2 a3 := k.grown h.out (fun e => hb (by injection e))
theorem C3.og {w w' : World} {c b : Nat} {t : TypeId} {a0 a1 a2 : Value} (k : C3 w b t a0 a1 a2) (h : Og c w w') (hb : b ≠ c) : C3 w' b t a0 a1 a2 := k.grown h.out (fun e => hb (by injection e))
theorem Og.own {w w' : World} {c : Nat} (h : Og c w w') {B : Nat} {e : TypeId} {sz : Nat} {p : Option Addr} {n cc : Nat} {cs : List Value} (k : Own w B e sz p n cc cs) (hb : c < B) : Own w' B e sz p n cc cs := by
  refine ⟨k.out.kept h.out ?_⟩
  cases hq : (Value.slice p n cc).ownBlock with
  | none => exact .inl rfl
  | some g => exact .inr (fun he => by have := (k.out.lt g hq).1; injection he with he; omega)
theorem Og.kept {w W W' : World} {c : Nat} (h : Og c W W') (k : Kept w W) (hb : w.heap.size ≤ c) : Kept w W' := ⟨k.out.grown h.out k.size (fun j hj => by injection hj with hj; omega)⟩

set_option maxRecDepth 100000 in
theorem rnum2 (n : Nat) (hn : n < 18446744073709551616) (t : List Nat) (ht : t.length ≤ 100000) (most : Nat) (hm : n ≤ most) {b : Nat} {w : World} (k : Rd w b (bs (numL n ++ t)) 0) :
    Calls Tryz.prog 106 #[.pointer (some ⟨b, 0, none⟩), .int .u64 (most : Nat)] w fun e w' => e = .returned (.int .u64 (n : Nat)) ∧ Rd w' b (bs t) 0 ∧ Og b w w' := by
  have h10 := numL_ten n hn
  have c0 := k.c0
  have f0 := k.f0 0
  have e13 := err_walk k
  have e33 := first_walk n hn t ht w
  have hx := bs_rest (numL n) t
  have hsz : (bs (numL n ++ t)).size = (numL n).length + t.length := by rw [bs_size]; simp
  have k2 := k.set0 (bs t)
  have o2 : Og b w (w.setCell ⟨b, 0, none⟩ (.string (bs t))) := Og.set _ _ _ _
  have K2 : Hid (Rd (w.setCell ⟨b, 0, none⟩ (.string (bs t))) b (bs t) 0) := k2
  generalize bs (numL n ++ t) = s at *
  generalize (numL n).length = L at *
  have hls : L ≤ s.size := by omega
  clear k2 hsz k
  go_enter Tryz.func106, Tryz.ntmps106
  go_wp2_with (first
    | (go_at_call 134; refine e13.mono ?_; rintro e w' ⟨rfl, rfl⟩)
    | (go_at_call 135; refine e33.mono ?_; rintro e w' ⟨rfl, rfl⟩))
  go_ret
  exact ⟨rfl, K2.out, o2⟩

set_option maxRecDepth 100000 in
theorem take2 (l t : List Nat) (x : Int) {b : Nat} {w : World} (k : Rd w b (bs (l ++ t)) x) :
    Calls Tryz.prog 133 #[.pointer (some ⟨b, 0, none⟩), .int .i64 (l.length : Nat)] w fun e w' => e = .returned (.string (bs l)) ∧ Rd w' b (bs t) x ∧ Og b w w' := by
  have c0 := k.c0
  have f0 := k.f0 0
  have h1 := bs_front l t
  have hx := bs_rest l t
  have hsz : (bs (l ++ t)).size = l.length + t.length := by rw [bs_size]; simp
  have k2 := k.set0 (bs t)
  have o2 : Og b w (w.setCell ⟨b, 0, none⟩ (.string (bs t))) := Og.set _ _ _ _
  have K2 : Hid (Rd (w.setCell ⟨b, 0, none⟩ (.string (bs t))) b (bs t) x) := k2
  generalize bs (l ++ t) = s at *
  have hls : l.length ≤ s.size := by omega
  clear k2 k hsz
  generalize l.length = L at *
  go_enter Tryz.func133, Tryz.ntmps133
  go_wp2
  go_ret
  exact ⟨rfl, K2.out, o2⟩

set_option maxRecDepth 100000 in
theorem rtext2_64 (l t : List Nat) (hl : l.length ≤ 64) (ht : t.length ≤ 20000) {b : Nat} {w : World} (k : Rd w b (bs (numL l.length ++ (l ++ t))) 0) :
    Calls Tryz.prog 107 #[.pointer (some ⟨b, 0, none⟩), .int .i64 64] w fun e w' => e = .returned (.string (bs l)) ∧ Rd w' b (bs t) 0 ∧ Og b w w' := by
  have h11 := rnum2 l.length (by omega) (l ++ t) (by simp; omega) 64 hl k
  have h21 := @take2 l t 0 b
  generalize bs (l ++ t) = s2 at *
  generalize l.length = L at *
  go_enter Tryz.func107, Tryz.ntmps107
  go_wp2_with (first
    | (go_at_call 106; refine h11.mono ?_; rintro e w1 ⟨rfl, k1, o1⟩)
    | (go_at_call 133; refine (h21 k1).mono ?_; rintro e w2 ⟨rfl, k2, o2⟩))
  go_ret
  exact ⟨rfl, k2, o1.trans o2⟩

set_option maxRecDepth 100000 in
theorem rtext2_48 (l t : List Nat) (hl : l.length ≤ 48) (ht : t.length ≤ 20000) {b : Nat} {w : World} (k : Rd w b (bs (numL l.length ++ (l ++ t))) 0) :
    Calls Tryz.prog 107 #[.pointer (some ⟨b, 0, none⟩), .int .i64 48] w fun e w' => e = .returned (.string (bs l)) ∧ Rd w' b (bs t) 0 ∧ Og b w w' := by
  have h11 := rnum2 l.length (by omega) (l ++ t) (by simp; omega) 48 hl k
  have h21 := @take2 l t 0 b
  generalize bs (l ++ t) = s2 at *
  generalize l.length = L at *
  go_enter Tryz.func107, Tryz.ntmps107
  go_wp2_with (first
    | (go_at_call 106; refine h11.mono ?_; rintro e w1 ⟨rfl, k1, o1⟩)
    | (go_at_call 133; refine (h21 k1).mono ?_; rintro e w2 ⟨rfl, k2, o2⟩))
  go_ret
  exact ⟨rfl, k2, o1.trans o2⟩

/-- A text of such bytes is read. -/
theorem rt64 (s : ByteArray) (hs : s.size ≤ 64) (t : List Nat) (ht : t.length ≤ 20000) {b : Nat} {w : World} (k : Rd w b (bs (keyN s ++ t)) 0) :
    Calls Tryz.prog 107 #[.pointer (some ⟨b, 0, none⟩), .int .i64 64] w fun e w' => e = .returned (.string s) ∧ Rd w' b (bs t) 0 ∧ Og b w w' := by
  have a := rtext2_64 (un s) t (by rw [un_length]; exact hs) ht (b := b) (w := w) (by rw [un_length]; unfold keyN at k; rwa [List.append_assoc] at k)
  rwa [bs_un] at a
theorem rt48 (s : ByteArray) (hs : s.size ≤ 48) (t : List Nat) (ht : t.length ≤ 20000) {b : Nat} {w : World} (k : Rd w b (bs (keyN s ++ t)) 0) :
    Calls Tryz.prog 107 #[.pointer (some ⟨b, 0, none⟩), .int .i64 48] w fun e w' => e = .returned (.string s) ∧ Rd w' b (bs t) 0 ∧ Og b w w' := by
  have a := rtext2_48 (un s) t (by rw [un_length]; exact hs) ht (b := b) (w := w) (by rw [un_length]; unfold keyN at k; rwa [List.append_assoc] at k)
  rwa [bs_un] at a

set_option maxHeartbeats 1000000 in
set_option maxRecDepth 100000 in
theorem value_walk (v : Vl) (hv : Okv v) (t : List Nat) (ht : t.length ≤ 18000) {b : Nat} {w : World} (k : Rd w b (bs (valN v ++ t)) 0) :
    Calls Tryz.prog 108 #[.pointer (some ⟨b, 0, none⟩)] w fun e w' => e = .returned (.agg #[.string v.d, .int .i64 v.p, .int .i64 v.l]) ∧ Rd w' b (bs t) 0 ∧ Og b w w' := by
  have hbl := k.lt
  have k0 := ((Kept.refl w).alloc (.cells #[.string ⟨#[]⟩, .int .i64 0, .int .i64 0] 33)).rd k
  have R0 := C3.alloc w 33 (.string ⟨#[]⟩) (.int .i64 0) (.int .i64 0)
  have o0 := ((Kept.refl w).alloc (.cells #[.string ⟨#[]⟩, .int .i64 0, .int .i64 0] 33)).og b
  obtain ⟨d, p, ln⟩ := v
  rcases hv with ⟨h1, h2, h3⟩ | ⟨h1, p', l', h2, h3, h4, h5, h6⟩
  · simp only at h1 h2 h3
    subst h1; subst h2
    have e2 : valN ⟨d, -1, 0⟩ ++ t = numL 0 ++ (keyN d ++ t) := by unfold valN keyN; rw [if_pos (by show (-1 : Int) < 0; decide), List.append_assoc]
    rw [e2] at k0
    have z := keyN_length d (by omega)
    have a1 := rnum2 0 (by decide) (keyN d ++ t) (by rw [List.length_append]; omega) 1 (by decide) k0
    have a2 := fun W => @rt48 d h3 t (by omega) b W
    have hne : ¬ (w.heap.size = b) := by omega
    have A1 : Calls Tryz.prog 106 #[.pointer (some ⟨b, 0, none⟩), .int .u64 1] (w.alloc (.cells #[.string ⟨#[]⟩, .int .i64 0, .int .i64 0] 33)) fun e w' => e = .returned (.int .u64 0) ∧ Rd w' b (bs (keyN d ++ t)) 0 ∧ Og b (w.alloc (.cells #[.string ⟨#[]⟩, .int .i64 0, .int .i64 0] 33)) w' := a1
    have A2 : Hid (∀ W, Rd W b (bs (keyN d ++ t)) 0 → Calls Tryz.prog 107 #[.pointer (some ⟨b, 0, none⟩), .int .i64 48] W fun e w' => e = .returned (.string d) ∧ Rd w' b (bs t) 0 ∧ Og b W w') := a2
    clear a1 a2 k0 k e2
    go_enter Tryz.func108, Tryz.ntmps108
    go_wp2_with (first
      | (go_at_call 106
         (with_reducible refine A1.mono ?_)
         rintro e v1 ⟨rfl, r1, o1⟩)
      | (go_at_call 107
         (with_reducible refine (A2.out _ r1).mono ?_)
         rintro e v2 ⟨rfl, r2, o2⟩
         have R2 := R0.og (o1.trans o2) hne
         obtain ⟨⟨g0, f0⟩, ⟨g1, f1⟩, ⟨g2, f2⟩, hfin⟩ := ready3 R2.out (.string d) (.int .i64 (-1)) (.int .i64 0)))
    have q1 : Rd (((v2.setCell ⟨w.heap.size, 0, none⟩ (.string d)).setCell ⟨w.heap.size, 1, none⟩ (.int .i64 (-1))).setCell ⟨w.heap.size, 2, none⟩ (.int .i64 0)) b (bs t) 0 := ⟨(others3 v2 (by omega) _ _ _).trans r2.out⟩
    generalize hW : (((v2.setCell ⟨w.heap.size, 0, none⟩ (.string d)).setCell ⟨w.heap.size, 1, none⟩ (.int .i64 (-1))).setCell ⟨w.heap.size, 2, none⟩ (.int .i64 0)) = WF at hfin q1 ⊢
    refine bodyPost_ret (v := .agg #[.string d, .int .i64 (-1), .int .i64 0]) ?_ rfl ⟨rfl, q1, ?_⟩
    · exact results_cell_row (p := 2) rfl _ _ w.heap.size 33 #[.string d, .int .i64 (-1), .int .i64 0] (0, 0) _ rfl hfin Tryz.underlying33 rfl size33
    · have o12 := o1.trans o2
      rw [← hW]
      refine ⟨o12.out.os, o12.out.tape, o12.out.output, ?_, ?_⟩
      · rw [size_set, size_set, size_set]; exact ((o0.trans o12)).out.size
      · intro j hj hne2
        rw [others3 v2 (by omega) _ _ _]
        exact (o0.trans o12).out.block j hj hne2
  · simp only at h1 h2 h4
    subst h1; subst h2; subst h4
    have e2 : valN ⟨⟨#[]⟩, (p' : Int), (l' : Int)⟩ ++ t = numL 1 ++ (numL p' ++ (numL l' ++ t)) := by unfold valN; rw [if_neg (by show ¬ (p' : Int) < 0; omega)]; simp
    rw [e2] at k0
    have z1 := num_small p' (by omega)
    have z2 := num_small l' (by omega)
    have a1 := rnum2 1 (by decide) (numL p' ++ (numL l' ++ t)) (by simp; omega) 1 (by decide) k0
    have a2 := fun W => @rnum2 p' (by omega) (numL l' ++ t) (by simp; omega) 16383 (by omega) b W
    have a3 := fun W => @rnum2 l' (by omega) t (by omega) 65536 (by omega) b W
    have hne : ¬ (w.heap.size = b) := by omega
    have u1 : IntKind.i64.wrap (p' : Int) = (p' : Int) := by rw [IntKind.wrap_i64]; omega
    have u2 : IntKind.i64.wrap (l' : Int) = (l' : Int) := by rw [IntKind.wrap_i64]; omega
    have A1 : Calls Tryz.prog 106 #[.pointer (some ⟨b, 0, none⟩), .int .u64 1] (w.alloc (.cells #[.string ⟨#[]⟩, .int .i64 0, .int .i64 0] 33)) fun e w' => e = .returned (.int .u64 1) ∧ Rd w' b (bs (numL p' ++ (numL l' ++ t))) 0 ∧ Og b (w.alloc (.cells #[.string ⟨#[]⟩, .int .i64 0, .int .i64 0] 33)) w' := a1
    have A2 : Hid (∀ W, Rd W b (bs (numL p' ++ (numL l' ++ t))) 0 → Calls Tryz.prog 106 #[.pointer (some ⟨b, 0, none⟩), .int .u64 16383] W fun e w' => e = .returned (.int .u64 (p' : Nat)) ∧ Rd w' b (bs (numL l' ++ t)) 0 ∧ Og b W w') := a2
    have A3 : Hid (∀ W, Rd W b (bs (numL l' ++ t)) 0 → Calls Tryz.prog 106 #[.pointer (some ⟨b, 0, none⟩), .int .u64 65536] W fun e w' => e = .returned (.int .u64 (l' : Nat)) ∧ Rd w' b (bs t) 0 ∧ Og b W w') := a3
    clear a1 a2 a3 k0 k e2
    go_enter Tryz.func108, Tryz.ntmps108
    go_wp2_with (first
      | (go_at_call 106
         (with_reducible refine A1.mono ?_)
         rintro e v1 ⟨rfl, r1, o1⟩)
      | (go_at_call 106
         (with_reducible refine (A2.out _ r1).mono ?_)
         rintro e v2 ⟨rfl, r2, o2⟩)
      | (go_at_call 106
         (with_reducible refine (A3.out _ r2).mono ?_)
         rintro e v3 ⟨rfl, r3, o3⟩
         have R2 := R0.og ((o1.trans o2).trans o3) hne
         obtain ⟨⟨g0, f0⟩, ⟨g1, f1⟩, ⟨g2, f2⟩, hfin⟩ := ready3 R2.out (.string ⟨#[]⟩) (.int .i64 (p' : Nat)) (.int .i64 (l' : Nat))))
    have q1 : Rd (((v3.setCell ⟨w.heap.size, 0, none⟩ (.string ⟨#[]⟩)).setCell ⟨w.heap.size, 1, none⟩ (.int .i64 (p' : Nat))).setCell ⟨w.heap.size, 2, none⟩ (.int .i64 (l' : Nat))) b (bs t) 0 := ⟨(others3 v3 (by omega) _ _ _).trans r3.out⟩
    generalize hW : (((v3.setCell ⟨w.heap.size, 0, none⟩ (.string ⟨#[]⟩)).setCell ⟨w.heap.size, 1, none⟩ (.int .i64 (p' : Nat))).setCell ⟨w.heap.size, 2, none⟩ (.int .i64 (l' : Nat))) = WF at hfin q1 ⊢
    refine bodyPost_ret (v := .agg #[.string ⟨#[]⟩, .int .i64 (p' : Nat), .int .i64 (l' : Nat)]) ?_ rfl ⟨rfl, q1, ?_⟩
    · exact results_cell_row (p := 2) rfl _ _ w.heap.size 33 #[.string ⟨#[]⟩, .int .i64 (p' : Nat), .int .i64 (l' : Nat)] (0, 0) _ rfl hfin Tryz.underlying33 rfl size33
    · have o12 := (o1.trans o2).trans o3
      rw [← hW]
      refine ⟨o12.out.os, o12.out.tape, o12.out.output, ?_, ?_⟩
      · rw [size_set, size_set, size_set]; exact ((o0.trans o12)).out.size
      · intro j hj hne2
        rw [others3 v3 (by omega) _ _ _]
        exact (o0.trans o12).out.block j hj hne2
end Go.Proofs.YtncfpjccfmolgaaGreatDoor.N
