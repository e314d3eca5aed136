/- Joined: NNC NND NNE NNF NNG NNH NNI. What is proved of the functions beneath StoreNone. Conditions: those that each row names. -/
import Derived.Test.YtifeihnhkbagpaaGreatDoorZaw
import Derived.Laws.Cover1
import Derived.Deep.RegionWith
namespace Go.Proofs.YtifeihnhkbagpaaGreatDoor.N
open Go.ChangeShapes Go.WideShapes Go.ChangeAt Go.RowKit

theorem isk_eq {key k : ByteArray} {ks : List ByteArray} (h : ks[fnd key ks]? = some k) : isk key ks = (k.toList == key.toList) := by
  unfold isk
  rw [h, seq_iff]
  simp

set_option maxRecDepth 100000 in
theorem find_some {w : World} {b off n c : Nat} {ks : List ByteArray} (hl : ks.length = n) (hc : ∀ j u, (kcl ks)[j]? = some u → w.cell? ⟨b, off + j, none⟩ = some u) (hn : n ≤ 100000) (key : ByteArray) :
    Calls Tryz.prog 64 #[.slice (some ⟨b, off, none⟩) n c, .string key] w fun e w' => e = .returned (.tuple #[.int .i64 (fnd key ks : Nat), .bool (isk key ks)]) ∧ w' = w := by
  have HC : Hid (∀ j k, ks[j]? = some k → w.cell? ⟨b, off + j, none⟩ = some (.string k)) := fun j k hk => hc j _ (kcl_at hk)
  have HL : Hid (ks.length = n) := hl
  clear hc hl
  go_enter Tryz.func64, Tryz.ntmps64
  go_wp2
  go_loopg [10] n (fun g v wx => ∃ i : Nat, v = .int .i64 (i : Nat) ∧ Hid (g = n - i) ∧ i ≤ n ∧ Hid (∀ j, j < i → ∀ k, ks[j]? = some k → sl k key = true) ∧ wx = w)
  case atStart => exact ⟨0, rfl, rfl, Nat.zero_le _, (fun j hj => absurd hj (Nat.not_lt_zero _)), rfl⟩
  case round =>
    obtain ⟨i, rfl, hg, hi, hlo, rfl⟩ := hrel
    by_cases hin : i < n
    · have hil : i < ks.length := by rw [HL.out]; exact hin
      obtain ⟨k, hk⟩ : ∃ k, ks[i]? = some k := ⟨_, List.getElem?_eq_getElem hil⟩
      have hcell := HC.out i k hk
      have Hk : Hid (ks[i]? = some k) := hk
      clear hk hil
      by_cases hs : Op.bytesLess k.toList key.toList = true
      · go_wp2
        go_roundg (n - (i + 1))
        case measure => rw [hg.out]; omega
        case rel =>
          refine ⟨i + 1, by go_num, rfl, by omega, ?_, rfl⟩
          intro j hj k2 hk2
          by_cases e : j = i
          · subst e; rw [Hk.out] at hk2; cases hk2; exact hs
          · exact hlo.out j (by omega) k2 hk2
      · have hs' : Op.bytesLess k.toList key.toList = false := by simpa using hs
        clear hs
        have hf : fnd key ks = i := fnd_eq key hlo.out (by rw [HL.out]; exact hi) (fun k2 hk2 => by rw [Hk.out] at hk2; cases hk2; exact hs')
        have hf2 : isk key ks = (k.toList == key.toList) := isk_eq (by rw [hf]; exact Hk.out)
        have HF : Hid (fnd key ks = i) := hf
        have HF2 : Hid (isk key ks = (k.toList == key.toList)) := hf2
        clear hf hf2
        go_wp2
        go_ret2
        rw [HF.out, HF2.out]
        exact ⟨rfl, rfl⟩
    · obtain rfl : i = n := by omega
      have hf : fnd key ks = i := fnd_eq key hlo.out (by rw [HL.out]; exact Nat.le_refl _) (fun k2 hk2 => by rw [List.getElem?_eq_none (by rw [HL.out]; exact Nat.le_refl _)] at hk2; cases hk2)
      have hf2 : isk key ks = false := by unfold isk; rw [hf, List.getElem?_eq_none (by rw [HL.out]; exact Nat.le_refl _)]; rfl
      have HF : Hid (fnd key ks = i) := hf
      have HF2 : Hid (isk key ks = false) := hf2
      clear hf hf2 hin
      go_wp2
      go_ret2
      rw [HF.out, HF2.out]
      exact ⟨rfl, rfl⟩

theorem find_none {w : World} {c : Nat} (key : ByteArray) :
    Calls Tryz.prog 64 #[.slice none 0 c, .string key] w fun e w' => e = .returned (.tuple #[.int .i64 0, .bool false]) ∧ w' = w := by
  go_enter Tryz.func64, Tryz.ntmps64
  go_wp2
  go_loopg [10] 0 (fun _ v wx => v = .int .i64 0 ∧ wx = w)
  case atStart => exact ⟨rfl, rfl⟩
  case round =>
    obtain ⟨rfl, rfl⟩ := hrel
    go_wp2
    go_ret2
    exact ⟨rfl, rfl⟩

theorem find_walk {w : World} {p : Option Addr} {n c : Nat} {ks : List ByteArray} (h : Rw w 1 p n c (kcl ks)) (hn : n ≤ 100000) (key : ByteArray) :
    Calls Tryz.prog 64 #[.slice p n c, .string key] w fun e w' => e = .returned (.tuple #[.int .i64 (fnd key ks : Nat), .bool (isk key ks)]) ∧ w' = w := by
  have hl := h.len
  rw [kcl_length, Nat.mul_one] at hl
  rcases h.out with ⟨rfl, rfl⟩ | ⟨b, off, rfl, hc⟩
  · obtain rfl : ks = [] := List.length_eq_zero_iff.1 hl
    exact find_none key
  · exact find_some hl hc hn key

structure Ki where
  s : ByteArray
  v : ByteArray
  pg : Int
  ln : Int

def Okv (v : Vl) : Prop := (v.p = -1 ∧ v.l = 0 ∧ v.d.size ≤ 48) ∨ (v.d = ⟨#[]⟩ ∧ ∃ p l : Nat, v.p = (p : Int) ∧ p ≤ 16383 ∧ v.l = (l : Int) ∧ 49 ≤ l ∧ l ≤ 16432)


theorem ins_kcl (ks : List ByteArray) (i : Nat) (key : ByteArray) : (kcl ks).take i ++ Value.string key :: (kcl ks).drop i = kcl (ins ks i key) := by
  simp [kcl, ins]
theorem ins_vcl (vs : List Vl) (i : Nat) (v : Vl) : (vcl vs).take (i * 3) ++ v.cells ++ (vcl vs).drop (i * 3) = vcl (ins vs i v) := by
  rw [vcl_take, vcl_drop, ins, vcl_append, vcl_cons, List.append_assoc]

theorem Own.blk_ne {w : World} {B : Nat} {e : TypeId} {sz : Nat} {p : Option Addr} {n c : Nat} {cs : List Value} (k : Own w B e sz p n c cs) {b : Nat} (h : b < B ∨ w.heap.size ≤ b) : some b ≠ blk p := by
  rcases k.cases with ⟨rfl, _⟩ | ⟨g, cur, rfl, h1, h2, _⟩
  · simp [blk]
  · simp [blk]; omega
theorem Own.head_ne {w : World} {B : Nat} {e : TypeId} {sz : Nat} {p : Option Addr} {n c : Nat} {cs : List Value} (k : Own w B e sz p n c cs) {b : Nat} (h : w.heap.size ≤ b) : ∀ g, p = some ⟨g, 0, none⟩ → g ≠ b := by
  rintro g rfl rfl
  rcases k.cases with ⟨hx, _⟩ | ⟨g', cur, hx, h1, h2, _⟩
  · cases hx
  · injection hx with hx; injection hx with hx; omega
theorem Own.grown {w w' : World} {B B' : Nat} {e e' : TypeId} {sz sz' : Nat} {p q : Option Addr} {n c n' c' : Nat} {cs cs' : List Value} (k : Own w B e sz p n c cs) (o : Own w B' e' sz' q n' c' cs') (he : e ≠ e') (h : w.grownBy w' (blk q)) : Own w' B e sz p n c cs := by
  refine ⟨k.out.kept h ?_⟩
  rcases k.cases with ⟨rfl, _⟩ | ⟨g, cur, rfl, _, _, hg, _⟩
  · exact .inl rfl
  · refine .inr (fun hx => ?_)
    rcases o.cases with ⟨rfl, _⟩ | ⟨g', cur', rfl, _, _, hg', _⟩
    · cases hx
    · simp [blk, Value.ownBlock] at hx
      subst hx
      rw [hg] at hg'
      injection hg' with hg'
      injection hg' with _ hg'
      exact he hg'
theorem grown_from {w W W' : World} {B : Nat} {e : TypeId} {sz : Nat} {q : Option Addr} {n c : Nat} {cs : List Value} (hk : Kept w W) (o : Own W B e sz q n c cs) (hB : w.heap.size ≤ B) (h : W.grownBy W' (blk q)) : Kept w W' := by
  refine ⟨hk.out.grown h hk.size ?_⟩
  rcases o.cases with ⟨rfl, _⟩ | ⟨g, cur, rfl, h1, _⟩
  · intro k hx; cases hx
  · intro k hx; simp [blk] at hx; omega

theorem C4.own_ne {w : World} {b : Nat} {t : TypeId} {a0 a1 a2 a3 : Value} (k : C4 w b t a0 a1 a2 a3) {B : Nat} {e : TypeId} {sz : Nat} {p : Option Addr} {n c : Nat} {cs : List Value} (o : Own w B e sz p n c cs) (h : t ≠ e) : some b ≠ blk p := by
  rcases o.cases with ⟨rfl, _⟩ | ⟨g, cur, rfl, _, _, hg, _⟩
  · simp [blk]
  · intro hx
    simp [blk] at hx
    subst hx
    rw [k.out] at hg
    injection hg with hg
    injection hg with _ hg
    exact h hg
theorem Own.farT {w : World} {B : Nat} {e : TypeId} {sz : Nat} {p : Option Addr} {n c : Nat} {cs : List Value} (k : Own w B e sz p n c cs) (a : Addr) (v : Value) (h : some a.block ≠ blk p) : Own (w.setCell a v) B e sz p n c cs := by
  refine ⟨k.out.kept (grown_set w a v) ?_⟩
  cases p with
  | none => exact .inl rfl
  | some x => exact .inr (fun he => h (by simpa [blk, Value.ownBlock] using he.symm))

structure SS (w W : World) (B0 r q b9 : Nat) (kp : Option Addr) (n kc : Nat) (KC : List Value) (vp : Option Addr) (m vc : Nat) (VC : List Value) : Prop where
  K : Kept w W
  R : C4 W r 121 (.bool false) (.slice none 0 0) (.slice none 0 0) (.slice none 0 0)
  Q : C3 W q 77 (.string ⟨#[]⟩) (.int .i64 0) (.int .i64 0)
  OK : Own W B0 9 1 kp n kc KC
  OV : Own W B0 77 3 vp m vc VC
  base : w.heap.size ≤ B0
  hr : r < B0
  hq : q < B0
  h9 : B0 ≤ b9
  wr : w.heap.size ≤ r
  wq : w.heap.size ≤ q

theorem SS.kept {w W W' : World} {B0 r q b9 : Nat} {kp : Option Addr} {n kc : Nat} {KC : List Value} {vp : Option Addr} {m vc : Nat} {VC : List Value} (s : SS w W B0 r q b9 kp n kc KC vp m vc VC) (k : Kept W W') : SS w W' B0 r q b9 kp n kc KC vp m vc VC :=
  ⟨s.K.trans k, s.R.kept k, s.Q.kept k, s.OK.kept k, s.OV.kept k, s.base, s.hr, s.hq, s.h9, s.wr, s.wq⟩
theorem SS.keys {w W W' : World} {B0 r q b9 : Nat} {kp : Option Addr} {n kc : Nat} {KC : List Value} {vp : Option Addr} {m vc : Nat} {VC : List Value} (s : SS w W B0 r q b9 kp n kc KC vp m vc VC) (g : W.grownBy W' (blk kp)) {kp' : Option Addr} {n' kc' : Nat} {KC' : List Value} (o : Own W' B0 9 1 kp' n' kc' KC') : SS w W' B0 r q b9 kp' n' kc' KC' vp m vc VC :=
  ⟨grown_from s.K s.OK s.base g, s.R.grown g (s.OK.blk_ne (.inl s.hr)), s.Q.grown g (s.OK.blk_ne (.inl s.hq)), o, s.OV.grown s.OK (by decide) g, s.base, s.hr, s.hq, s.h9, s.wr, s.wq⟩
theorem SS.valsG {w W W' : World} {B0 r q b9 : Nat} {kp : Option Addr} {n kc : Nat} {KC : List Value} {vp : Option Addr} {m vc : Nat} {VC : List Value} (s : SS w W B0 r q b9 kp n kc KC vp m vc VC) (g : W.grownBy W' (blk vp)) {vp' : Option Addr} {m' vc' : Nat} {VC' : List Value} (o : Own W' B0 77 3 vp' m' vc' VC') : SS w W' B0 r q b9 kp n kc KC vp' m' vc' VC' :=
  ⟨grown_from s.K s.OV s.base g, s.R.grown g (s.OV.blk_ne (.inl s.hr)), s.Q.grown g (s.OV.blk_ne (.inl s.hq)), s.OK.grown s.OV (by decide) g, o, s.base, s.hr, s.hq, s.h9, s.wr, s.wq⟩
theorem SS.vals {w W W' : World} {B0 r q b9 : Nat} {kp : Option Addr} {n kc : Nat} {KC : List Value} {vp : Option Addr} {m vc : Nat} {VC : List Value} (s : SS w W B0 r q b9 kp n kc KC vp m vc VC) (k : Kept W W') (h : B0 ≤ W.heap.size) {vp' : Option Addr} {m' vc' : Nat} {VC' : List Value} (o : Own W' W.heap.size 77 3 vp' m' vc' VC') : SS w W' B0 r q b9 kp n kc KC vp' m' vc' VC' :=
  have s' := s.kept k
  ⟨s'.K, s'.R, s'.Q, s'.OK, o.mono h, s.base, s.hr, s.hq, s.h9, s.wr, s.wq⟩
theorem SS.store {w W : World} {B0 r q b9 : Nat} {kp : Option Addr} {n kc : Nat} {KC : List Value} {vp : Option Addr} {m vc : Nat} {VC : List Value} (s : SS w W B0 r q b9 kp n kc KC vp m vc VC) {a0 a1 a2 a3 : Value} (x : C4 W b9 121 a0 a1 a2 a3) (j : Nat) (v : Value) : SS w (W.setCell ⟨b9, j, none⟩ v) B0 r q b9 kp n kc KC vp m vc VC :=
  have h1 := s.hr
  have h2 := s.hq
  have h3 := s.h9
  have h4 := s.base
  ⟨s.K.set (show w.heap.size ≤ b9 by omega) v, s.R.far _ _ (show r ≠ b9 by omega), s.Q.far _ _ (show q ≠ b9 by omega), s.OK.farT _ _ (x.own_ne s.OK (by decide)), s.OV.farT _ _ (x.own_ne s.OV (by decide)), s.base, s.hr, s.hq, s.h9, s.wr, s.wq⟩

theorem C4.set1 {w : World} {b : Nat} {t : TypeId} {a0 a1 a2 a3 : Value} (k : C4 w b t a0 a1 a2 a3) (v : Value) : C4 (w.setCell ⟨b, 1, none⟩ v) b t a0 v a2 a3 := ⟨by rw [heap_setCell_same w b 1 _ _ _ k.out]; rfl⟩
theorem C4.set2 {w : World} {b : Nat} {t : TypeId} {a0 a1 a2 a3 : Value} (k : C4 w b t a0 a1 a2 a3) (v : Value) : C4 (w.setCell ⟨b, 2, none⟩ v) b t a0 a1 v a3 := ⟨by rw [heap_setCell_same w b 2 _ _ _ k.out]; rfl⟩
theorem C4.set3 {w : World} {b : Nat} {t : TypeId} {a0 a1 a2 a3 : Value} (k : C4 w b t a0 a1 a2 a3) (v : Value) : C4 (w.setCell ⟨b, 3, none⟩ v) b t a0 a1 a2 v := ⟨by rw [heap_setCell_same w b 3 _ _ _ k.out]; rfl⟩
theorem size_set (w : World) (a : Addr) (v : Value) : (w.setCell a v).heap.size = w.heap.size := by simp [World.setCell]

theorem SS.done {w W : World} {B0 r q b9 : Nat} {kp : Option Addr} {n kc : Nat} {KC : List Value} {vp : Option Addr} {m vc : Nat} {VC : List Value} (s : SS w W B0 r q b9 kp n kc KC vp m vc VC) (hrq : r ≠ q) (a0 a1 a2 a3 v0 v1 v2 : Value) :
    (((((((W.setCell ⟨r, 0, none⟩ a0).setCell ⟨r, 1, none⟩ a1).setCell ⟨r, 2, none⟩ a2).setCell ⟨r, 3, none⟩ a3).setCell ⟨q, 0, none⟩ v0).setCell ⟨q, 1, none⟩ v1).setCell ⟨q, 2, none⟩ v2).heap[r]? = some (.cells #[a0, a1, a2, a3] 121) ∧ (((((((W.setCell ⟨r, 0, none⟩ a0).setCell ⟨r, 1, none⟩ a1).setCell ⟨r, 2, none⟩ a2).setCell ⟨r, 3, none⟩ a3).setCell ⟨q, 0, none⟩ v0).setCell ⟨q, 1, none⟩ v1).setCell ⟨q, 2, none⟩ v2).heap[q]? = some (.cells #[v0, v1, v2] 77) ∧
    Own (((((((W.setCell ⟨r, 0, none⟩ a0).setCell ⟨r, 1, none⟩ a1).setCell ⟨r, 2, none⟩ a2).setCell ⟨r, 3, none⟩ a3).setCell ⟨q, 0, none⟩ v0).setCell ⟨q, 1, none⟩ v1).setCell ⟨q, 2, none⟩ v2) B0 9 1 kp n kc KC ∧ Own (((((((W.setCell ⟨r, 0, none⟩ a0).setCell ⟨r, 1, none⟩ a1).setCell ⟨r, 2, none⟩ a2).setCell ⟨r, 3, none⟩ a3).setCell ⟨q, 0, none⟩ v0).setCell ⟨q, 1, none⟩ v1).setCell ⟨q, 2, none⟩ v2) B0 77 3 vp m vc VC ∧ Kept w (((((((W.setCell ⟨r, 0, none⟩ a0).setCell ⟨r, 1, none⟩ a1).setCell ⟨r, 2, none⟩ a2).setCell ⟨r, 3, none⟩ a3).setCell ⟨q, 0, none⟩ v0).setCell ⟨q, 1, none⟩ v1).setCell ⟨q, 2, none⟩ v2) := by
  have hR := (ready4 s.R.out a0 a1 a2 a3).2.2.2.2
  have hQ0 : ((((W.setCell ⟨r, 0, none⟩ a0).setCell ⟨r, 1, none⟩ a1).setCell ⟨r, 2, none⟩ a2).setCell ⟨r, 3, none⟩ a3).heap[q]? = _ := (others4 W (Ne.symm hrq) a0 a1 a2 a3).trans s.Q.out
  exact ⟨(others3 _ hrq v0 v1 v2).trans hR, (ready3 hQ0 v0 v1 v2).2.2.2, (s.OK.st4 s.hr _ _ _ _).st3 s.hq _ _ _, (s.OV.st4 s.hr _ _ _ _).st3 s.hq _ _ _, (s.K.st4 s.wr _ _ _ _).st3 s.wq _ _ _⟩

set_option maxHeartbeats 4000000 in
set_option maxRecDepth 100000 in
theorem set_new {w : World} {l : Bool} {kp vp ip : Option Addr} {n kc vc ni ic : Nat} {ks : List ByteArray} {vs : List Vl} (hk : Rw w 1 kp n kc (kcl ks)) (hv : Rw w 3 vp n vc (vcl vs)) (hn : n ≤ 99999) (key : ByteArray) (v : Vl) (hs : isk key ks = false) :
    Calls Tryz.prog 93 #[.agg #[.bool l, .slice kp n kc, .slice vp n vc, .slice ip ni ic], .string key, .agg #[.string v.d, .int .i64 v.p, .int .i64 v.l]] w fun e w' => ∃ kp' kc' vp' vc', e = .returned (.tuple #[.agg #[.bool true, .slice kp' (n + 1) kc', .slice vp' (n + 1) vc', .slice none 0 0], .agg #[.string ⟨#[]⟩, .int .i64 (-1), .int .i64 0], .bool false]) ∧ Own w' w.heap.size 9 1 kp' (n + 1) kc' (kcl (ins ks (fnd key ks) key)) ∧ Own w' w.heap.size 77 3 vp' (n + 1) vc' (vcl (ins vs (fnd key ks) v)) ∧ Kept w w' := by
  obtain ⟨d, p, ln⟩ := v
  have hkl : ks.length = n := by have := hk.len; rw [kcl_length, Nat.mul_one] at this; exact this
  have hvl : vs.length = n := by have := hv.len; rw [vcl_length] at this; omega
  have HL : Hid (∀ W, Kept w W → Calls Tryz.prog 113 #[.agg #[.bool l, .slice kp n kc, .slice vp n vc, .slice ip ni ic]] W fun e w' => ∃ kp' kc' vp', e = .returned (.agg #[.bool true, .slice kp' n kc', .slice vp' n n, .slice none 0 0]) ∧ Own w' W.heap.size 9 1 kp' n kc' (kcl ks) ∧ Own w' W.heap.size 77 3 vp' n n (vcl vs) ∧ Kept W w') := fun W hW => leafOf_walk (hW.rw hk) (hW.rw hv) (kcl_one _) (vcl_one _) (by omega)
  have hi : fnd key ks ≤ n := by rw [← hkl]; exact fnd_le _ _
  have HF : Hid (∀ (W : World) (p : Option Addr) (c : Nat), Rw W 1 p n c (kcl ks) → Calls Tryz.prog 64 #[.slice p n c, .string key] W fun e w' => e = .returned (.tuple #[.int .i64 (fnd key ks : Nat), .bool false]) ∧ w' = W) := fun W p c h => by have := find_walk h (by omega) key; rwa [hs] at this
  generalize hI : fnd key ks = i at *
  have HK : Hid (kcl (ins ks i key) = (kcl ks).take i ++ Value.string key :: (kcl ks).drop i) := (ins_kcl ks i key).symm
  have HV : Hid (vcl (ins vs i ⟨d, p, ln⟩) = (vcl vs).take (i * 3) ++ [.string d, .int .i64 p, .int .i64 ln] ++ (vcl vs).drop (i * 3)) := (ins_vcl vs i ⟨d, p, ln⟩).symm
  have H1 : Hid (∀ u ∈ kcl ks, u.oneCell' = true) := kcl_one _
  have H2 : Hid (∀ u ∈ vcl vs, u.oneCell' = true) := vcl_one _
  have H3 : Hid (∀ u ∈ [Value.string d, Value.int .i64 p, Value.int .i64 ln], u.oneCell' = true) := Vl.one ⟨d, p, ln⟩
  obtain ⟨oA, hoA⟩ : ∃ o : Obj, o = .cells #[.bool l, .slice kp n kc, .slice vp n vc, .slice ip ni ic] 121 := ⟨_, rfl⟩
  obtain ⟨oB, hoB⟩ : ∃ o : Obj, o = .cells #[.string d, .int .i64 p, .int .i64 ln] 77 := ⟨_, rfl⟩
  obtain ⟨oC, hoC⟩ : ∃ o : Obj, o = .cells #[.bool false, .slice none 0 0, .slice none 0 0, .slice none 0 0] 121 := ⟨_, rfl⟩
  obtain ⟨oD, hoD⟩ : ∃ o : Obj, o = .cells #[.string ⟨#[]⟩, .int .i64 0, .int .i64 0] 77 := ⟨_, rfl⟩
  have K0 : Kept w ((((w.alloc oA).alloc oB).alloc oC).alloc oD) := ((((Kept.refl w).alloc _).alloc _).alloc _).alloc _
  have S0 : ((((w.alloc oA).alloc oB).alloc oC).alloc oD).heap.size = w.heap.size + 4 := by rw [size_alloc, size_alloc, size_alloc, size_alloc]
  have B0 : C3 ((((w.alloc oA).alloc oB).alloc oC).alloc oD) (w.heap.size + 1) 77 (.string d) (.int .i64 p) (.int .i64 ln) := by
    subst hoB; rw [← size_alloc w oA]; exact (C3.alloc _ 77 _ _ _).kept (((Kept.refl _).alloc _).alloc _)
  have R0 : C4 ((((w.alloc oA).alloc oB).alloc oC).alloc oD) (w.heap.size + 1 + 1) 121 (.bool false) (.slice none 0 0) (.slice none 0 0) (.slice none 0 0) := by
    subst hoC; rw [show w.heap.size + 1 + 1 = ((w.alloc oA).alloc oB).heap.size by rw [size_alloc, size_alloc]]; exact (C4.alloc _ 121 _ _ _ _).kept ((Kept.refl _).alloc _)
  have Q0 : C3 ((((w.alloc oA).alloc oB).alloc oC).alloc oD) (w.heap.size + 1 + 1 + 1) 77 (.string ⟨#[]⟩) (.int .i64 0) (.int .i64 0) := by
    subst hoD; rw [show w.heap.size + 1 + 1 + 1 = (((w.alloc oA).alloc oB).alloc oC).heap.size by rw [size_alloc, size_alloc, size_alloc]]; exact C3.alloc _ 77 _ _ _
  subst hoA; subst hoB; subst hoC; subst hoD
  clear hk hv hkl hvl
  go_enter Tryz.func93, Tryz.ntmps93
  go_wp2_with (first
    | (go_at_call 113
       (with_reducible refine (HL.out _ K0).mono ?_)
       rintro e v1 ⟨kp1, kc1, vp1, rfl, O1, O2, k1⟩
       rw [S0] at O1 O2
       have S1 := k1.size
       rw [S0] at S1
       have s1 : SS w v1 (w.heap.size + 4) (w.heap.size + 1 + 1) (w.heap.size + 1 + 1 + 1) v1.heap.size kp1 n kc1 (kcl ks) vp1 n n (vcl vs) := ⟨K0.trans k1, R0.kept k1, Q0.kept k1, O1, O2, by omega, by omega, by omega, S1, by omega, by omega⟩
       have b1 := B0.kept k1
       clear B0 R0 Q0 K0 HL S0 k1 O1 O2
       have x1 := C4.alloc v1 121 (.bool true) (.slice kp1 n kc1) (.slice vp1 n n) (.slice none 0 0)
       have k2 := (Kept.refl v1).alloc (.cells #[.bool true, .slice kp1 n kc1, .slice vp1 n n, .slice none 0 0] 121)
       have s2 := s1.kept k2
       have b2 := b1.kept k2
       have z2 := size_alloc v1 (.cells #[.bool true, .slice kp1 n kc1, .slice vp1 n n, .slice none 0 0] 121)
       clear k2 s1 b1)
    | (go_at_call 64
       (with_reducible refine (HF.out _ _ _ s2.OK.rw).mono ?_)
       rintro e v2 ⟨rfl, hv2⟩
       rw [hv2]
       clear hv2 HF
       have hV := heap_alloc_new (v1.alloc (.cells #[.bool true, .slice kp1 n kc1, .slice vp1 n n, .slice none 0 0] 121)) (.cells #[.string key] 9)
       have z3 := size_alloc (v1.alloc (.cells #[.bool true, .slice kp1 n kc1, .slice vp1 n n, .slice none 0 0] 121)) (.cells #[.string key] 9)
       have hH := s2.OK.head_ne (b := v1.heap.size + 1) (by rw [z2]; exact Nat.le_refl _)
       have k3 := (Kept.refl (v1.alloc (.cells #[.bool true, .slice kp1 n kc1, .slice vp1 n n, .slice none 0 0] 121))).alloc (.cells #[.string key] 9)
       have s3 := s2.kept k3
       have b3 := b2.kept k3
       have x3 := x1.kept k3
       rw [z2] at hV z3
       clear k3 s2 b2 z2)
    | (go_at_call 129
       (with_reducible refine (insert45 s3.OK (by rw [z3]; omega) i hi (by omega) H1.out _ _ hV hH rfl).mono ?_)
       rintro e v4 ⟨kp4, kc4, rfl, o4, g4⟩
       rw [← HK.out] at o4
       have x4 := x3.grown g4 (x3.own_ne s3.OK (by decide))
       have b4 := b3.grown g4 (s3.OK.blk_ne (.inl (by omega)))
       have z4 := g4.size
       rw [z3] at z4
       have s4 := s3.keys g4 o4
       clear s3 x3 b3 g4 o4 z3 hV hH
       have c4 := x4.cs.2.1
       have f4 := x4.fz 1
       have s5 := s4.store x4 1 (.slice kp4 (n + 1) kc4)
       have x5 := x4.set1 (.slice kp4 (n + 1) kc4)
       have b5 := b4.far ⟨v1.heap.size, 1, none⟩ (.slice kp4 (n + 1) kc4) (by show w.heap.size + 1 ≠ v1.heap.size; omega)
       have z5 : (v4.setCell ⟨v1.heap.size, 1, none⟩ (.slice kp4 (n + 1) kc4)).heap.size = v4.heap.size := size_set _ _ _
       clear s4 b4
       have hV2 := heap_alloc_new (v4.setCell ⟨v1.heap.size, 1, none⟩ (.slice kp4 (n + 1) kc4)) (.cells #[.string d, .int .i64 p, .int .i64 ln] 77)
       have z6 := size_alloc (v4.setCell ⟨v1.heap.size, 1, none⟩ (.slice kp4 (n + 1) kc4)) (.cells #[.string d, .int .i64 p, .int .i64 ln] 77)
       have k6 := (Kept.refl (v4.setCell ⟨v1.heap.size, 1, none⟩ (.slice kp4 (n + 1) kc4))).alloc (.cells #[.string d, .int .i64 p, .int .i64 ln] 77)
       obtain ⟨e0, e1, e2⟩ := b5.cs
       have e3 := x5.cs.2.2.1
       have s6 := s5.kept k6
       have x6 := x5.kept k6
       rw [z5] at hV2 z6
       clear s5 x5 k6 z5 b5)
    | (go_at_call 130
       (with_reducible refine (insert46 s6.OV i hi (by omega) H2.out _ [.string d, .int .i64 p, .int .i64 ln] rfl hV2 H3.out).mono ?_)
       rintro e v7 ⟨vp7, vc7, rfl, o7, k7⟩
       rw [← HV.out] at o7
       have x7 := x6.kept k7
       have s7 := s6.vals k7 (by rw [z6]; omega) o7
       clear s6 x6 o7 k7 hV2 z6
       have c7 := x7.cs.2.2.1
       have f7 := x7.fz 2
       have s8 := s7.store x7 2 (.slice vp7 (n + 1) vc7)
       have x8 := x7.set2 (.slice vp7 (n + 1) vc7)
       clear s7 x7))
  generalize hW8 : v7.setCell ⟨v1.heap.size, 2, none⟩ (.slice vp7 (n + 1) vc7) = W8 at *
  clear hW8 c4 f4 x4 e0 e1 e2 e3 c7 f7
  have hne1 : ¬ (v1.heap.size = w.heap.size + 1 + 1) := by omega
  have hne2 : ¬ (v1.heap.size = w.heap.size + 1 + 1 + 1) := by omega
  have x8 := x8.drew
  have s8 := s8.kept (Kept.refl W8).drew
  obtain ⟨c0, c1, c2, c3⟩ := x8.cs
  go_region_with (first
    | (go_at_call 114
       (with_reducible refine (nothing_walk _).mono ?_)
       rintro e v9 ⟨rfl, k9⟩
       have x9 := x8.kept k9
       have s9 := s8.kept k9
       clear x8 s8
       obtain ⟨d0, d1, d2, d3⟩ := x9.cs
       obtain ⟨⟨g0, f0⟩, ⟨g1, f1⟩, ⟨g2, f2⟩, ⟨g3, f3⟩, hR⟩ := ready4 s9.R.out (.bool true) (.slice kp4 (n + 1) kc4) (.slice vp7 (n + 1) vc7) (.slice none 0 0)
       have hQ0 : ((((v9.setCell ⟨(w.heap.size + 1 + 1), 0, none⟩ (.bool true)).setCell ⟨(w.heap.size + 1 + 1), 1, none⟩ (.slice kp4 (n + 1) kc4)).setCell ⟨(w.heap.size + 1 + 1), 2, none⟩ (.slice vp7 (n + 1) vc7)).setCell ⟨(w.heap.size + 1 + 1), 3, none⟩ (.slice none 0 0)).heap[w.heap.size + 1 + 1 + 1]? = _ := (others4 v9 (by omega) _ _ _ _).trans s9.Q.out
       obtain ⟨⟨q0, y0⟩, ⟨q1, y1⟩, ⟨q2, y2⟩, hQ⟩ := ready3 hQ0 (.string ⟨#[]⟩) (.int .i64 (-1)) (.int .i64 0)))
  all_goals
    obtain ⟨F1, F2, F3, F4, F5⟩ := s9.done (by omega) (.bool true) (.slice kp4 (n + 1) kc4) (.slice vp7 (n + 1) vc7) (.slice none 0 0) (.string ⟨#[]⟩) (.int .i64 (-1)) (.int .i64 0)
    generalize hWF : (((((((v9.setCell ⟨(w.heap.size + 1 + 1), 0, none⟩ (.bool true)).setCell ⟨(w.heap.size + 1 + 1), 1, none⟩ (.slice kp4 (n + 1) kc4)).setCell ⟨(w.heap.size + 1 + 1), 2, none⟩ (.slice vp7 (n + 1) vc7)).setCell ⟨(w.heap.size + 1 + 1), 3, none⟩ (.slice none 0 0)).setCell ⟨(w.heap.size + 1 + 1 + 1), 0, none⟩ (.string ⟨#[]⟩)).setCell ⟨(w.heap.size + 1 + 1 + 1), 1, none⟩ (.int .i64 (-1))).setCell ⟨(w.heap.size + 1 + 1 + 1), 2, none⟩ (.int .i64 0)) = WF at F1 F2 F3 F4 F5 ⊢
    clear hWF x9 s9 g0 f0 g1 f1 g2 f2 g3 f3 hR hQ0 q0 y0 q1 y1 q2 y2 hQ
    go_wp2
    refine bodyPost_ret (v := .tuple #[.agg #[.bool true, .slice kp4 (n + 1) kc4, .slice vp7 (n + 1) vc7, .slice none 0 0], .agg #[.string ⟨#[]⟩, .int .i64 (-1), .int .i64 0], .bool false]) ?_ rfl ⟨_, _, _, _, rfl, F3.mono (by omega), F4.mono (by omega), F5⟩
    exact results_three (p := 6) (q := 7) (u := 8) (ty := 121) (tz := 77) rfl _ _ (w.heap.size + 1 + 1) (w.heap.size + 1 + 1 + 1) 121 77 #[.bool true, .slice kp4 (n + 1) kc4, .slice vp7 (n + 1) vc7, .slice none 0 0] #[.string ⟨#[]⟩, .int .i64 (-1), .int .i64 0] (0, 0) (0, 0) _ _ rfl F1 Tryz.underlying121 rfl size121 rfl F2 Tryz.underlying77 rfl size77

theorem Own.some_of {w : World} {B : Nat} {e : TypeId} {sz : Nat} {p : Option Addr} {n c : Nat} {cs : List Value} (k : Own w B e sz p n c cs) (h : 0 < n) : ∃ g, p = some ⟨g, 0, none⟩ := by
  rcases k.cases with ⟨_, h0, _⟩ | ⟨g, cur, rfl, _⟩
  · omega
  · exact ⟨g, rfl⟩
theorem Own.cell {w : World} {B : Nat} {e : TypeId} {sz g n c : Nat} {cs : List Value} (k : Own w B e sz (some ⟨g, 0, none⟩) n c cs) {j : Nat} {u : Value} (h : cs[j]? = some u) : w.cell? ⟨g, j, none⟩ = some u := by
  rcases k.rw.out with ⟨hx, _⟩ | ⟨b, off, hx, hc⟩
  · cases hx
  · injection hx with hx
    injection hx with h1 h2
    subst h1; subst h2
    have := hc j u h
    rwa [Nat.zero_add] at this
theorem Own.fz {w : World} {B : Nat} {e : TypeId} {sz g n c : Nat} {cs : List Value} (k : Own w B e sz (some ⟨g, 0, none⟩) n c cs) (j : Nat) : w.frozen? ⟨g, j, none⟩ = false := by
  rcases k.cases with ⟨hx, _⟩ | ⟨g', cur, hx, _, _, hg, _⟩
  · cases hx
  · injection hx with hx
    injection hx with hx
    subst hx
    exact frozen_of_row w g j _ _ hg
theorem Own.val {w : World} {B : Nat} {g n c : Nat} {vs : List Vl} (k : Own w B 77 3 (some ⟨g, 0, none⟩) n c (vcl vs)) {i : Nat} {v : Vl} (h : vs[i]? = some v) :
    w.cell? ⟨g, i * 3, none⟩ = some (.string v.d) ∧ w.cell? ⟨g, i * 3 + 1, none⟩ = some (.int .i64 v.p) ∧ w.cell? ⟨g, i * 3 + 2, none⟩ = some (.int .i64 v.l) := by
  obtain ⟨a, b, d⟩ := vcl_at h
  exact ⟨k.cell a, k.cell b, k.cell d⟩

theorem vcl_set {vs : List Vl} {i : Nat} (h : i < vs.length) (v : Vl) : (((vcl vs).set (i * 3) (.string v.d)).set (i * 3 + 1) (.int .i64 v.p)).set (i * 3 + 2) (.int .i64 v.l) = vcl (vs.set i v) := by
  have e : vcl vs = vcl (vs.take i) ++ (vs[i].cells ++ vcl (vs.drop (i + 1))) := by
    rw [← vcl_cons, List.getElem_cons_drop h, ← vcl_append, List.take_append_drop]
  have e2 : vcl (vs.set i v) = vcl (vs.take i) ++ (v.cells ++ vcl (vs.drop (i + 1))) := by
    rw [← vcl_cons, ← vcl_append, List.set_eq_take_append_cons_drop, if_pos h]
  have hn : (vcl (vs.take i)).length = i * 3 := by rw [vcl_length, List.length_take]; omega
  rw [e, e2, List.set_append_right _ _ (by omega), List.set_append_right _ _ (by omega), List.set_append_right _ _ (by omega), hn, Nat.sub_self, show i * 3 + 1 - i * 3 = 1 by omega, show i * 3 + 2 - i * 3 = 2 by omega]
  simp [Vl.cells]

theorem Own.put {w : World} {B g n c : Nat} {vs : List Vl} (k : Own w B 77 3 (some ⟨g, 0, none⟩) n c (vcl vs)) {i : Nat} {o : Vl} (h : vs[i]? = some o) (v : Vl) :
    (w.cell? ⟨g, i * 3, none⟩ = some (.string o.d) ∧ w.frozen? ⟨g, i * 3, none⟩ = false) ∧
    ((w.setCell ⟨g, i * 3, none⟩ (.string v.d)).cell? ⟨g, i * 3 + 1, none⟩ = some (.int .i64 o.p) ∧ (w.setCell ⟨g, i * 3, none⟩ (.string v.d)).frozen? ⟨g, i * 3 + 1, none⟩ = false) ∧
    (((w.setCell ⟨g, i * 3, none⟩ (.string v.d)).setCell ⟨g, i * 3 + 1, none⟩ (.int .i64 v.p)).cell? ⟨g, i * 3 + 2, none⟩ = some (.int .i64 o.l) ∧ ((w.setCell ⟨g, i * 3, none⟩ (.string v.d)).setCell ⟨g, i * 3 + 1, none⟩ (.int .i64 v.p)).frozen? ⟨g, i * 3 + 2, none⟩ = false) ∧
    Own (((w.setCell ⟨g, i * 3, none⟩ (.string v.d)).setCell ⟨g, i * 3 + 1, none⟩ (.int .i64 v.p)).setCell ⟨g, i * 3 + 2, none⟩ (.int .i64 v.l)) B 77 3 (some ⟨g, 0, none⟩) n c (vcl (vs.set i v)) ∧
    w.grownBy (((w.setCell ⟨g, i * 3, none⟩ (.string v.d)).setCell ⟨g, i * 3 + 1, none⟩ (.int .i64 v.p)).setCell ⟨g, i * 3 + 2, none⟩ (.int .i64 v.l)) (some g) := by
  have hi := (List.getElem?_eq_some_iff.1 h).1
  obtain ⟨a, b, d⟩ := vcl_at h
  obtain ⟨k1, g1⟩ := k.out.stored (i * 3) (.string v.d)
  obtain ⟨k2, g2⟩ := k1.stored (i * 3 + 1) (.int .i64 v.p)
  obtain ⟨k3, g3⟩ := k2.stored (i * 3 + 2) (.int .i64 v.l)
  have o1 : Own _ B 77 3 (some ⟨g, 0, none⟩) n c _ := ⟨k1⟩
  have o2 : Own _ B 77 3 (some ⟨g, 0, none⟩) n c _ := ⟨k2⟩
  rw [vcl_set hi] at k3
  refine ⟨⟨k.cell a, k.fz _⟩, ⟨o1.cell ?_, o1.fz _⟩, ⟨o2.cell ?_, o2.fz _⟩, ⟨k3⟩, ?_⟩
  · rw [List.getElem?_set_ne (by omega)]; exact b
  · rw [List.getElem?_set_ne (by omega), List.getElem?_set_ne (by omega)]; exact d
  · exact ⟨(g3.os.trans g2.os).trans g1.os, (g3.tape.trans g2.tape).trans g1.tape, (g3.output.trans g2.output).trans g1.output, Nat.le_trans g1.size (Nat.le_trans g2.size g3.size), fun j hj hne => (g3.block j (Nat.lt_of_lt_of_le hj (Nat.le_trans g1.size g2.size)) hne).trans ((g2.block j (Nat.lt_of_lt_of_le hj g1.size) hne).trans (g1.block j hj hne))⟩

set_option maxHeartbeats 4000000 in
set_option maxRecDepth 100000 in
theorem set_old {w : World} {l : Bool} {kp vp ip : Option Addr} {n kc vc ni ic : Nat} {ks : List ByteArray} {vs : List Vl} (hk : Rw w 1 kp n kc (kcl ks)) (hv : Rw w 3 vp n vc (vcl vs)) (hn : n ≤ 99999) (key : ByteArray) (v : Vl) (hs : isk key ks = true) :
    Calls Tryz.prog 93 #[.agg #[.bool l, .slice kp n kc, .slice vp n vc, .slice ip ni ic], .string key, .agg #[.string v.d, .int .i64 v.p, .int .i64 v.l]] w fun e w' => ∃ kp' kc' vp' vc' o, vs[fnd key ks]? = some o ∧ e = .returned (.tuple #[.agg #[.bool true, .slice kp' n kc', .slice vp' n vc', .slice none 0 0], .agg #[.string o.d, .int .i64 o.p, .int .i64 o.l], .bool true]) ∧ Own w' w.heap.size 9 1 kp' n kc' (kcl ks) ∧ Own w' w.heap.size 77 3 vp' n vc' (vcl (vs.set (fnd key ks) v)) ∧ Kept w w' := by
  obtain ⟨d, p, ln⟩ := v
  have hkl : ks.length = n := by have := hk.len; rw [kcl_length, Nat.mul_one] at this; exact this
  have hvl : vs.length = n := by have := hv.len; rw [vcl_length] at this; omega
  have HL : Hid (∀ W, Kept w W → Calls Tryz.prog 113 #[.agg #[.bool l, .slice kp n kc, .slice vp n vc, .slice ip ni ic]] W fun e w' => ∃ kp' kc' vp', e = .returned (.agg #[.bool true, .slice kp' n kc', .slice vp' n n, .slice none 0 0]) ∧ Own w' W.heap.size 9 1 kp' n kc' (kcl ks) ∧ Own w' W.heap.size 77 3 vp' n n (vcl vs) ∧ Kept W w') := fun W hW => leafOf_walk (hW.rw hk) (hW.rw hv) (kcl_one _) (vcl_one _) (by omega)
  have hi : fnd key ks < n := by rw [← hkl]; exact isk_lt hs
  have HF : Hid (∀ (W : World) (p : Option Addr) (c : Nat), Rw W 1 p n c (kcl ks) → Calls Tryz.prog 64 #[.slice p n c, .string key] W fun e w' => e = .returned (.tuple #[.int .i64 (fnd key ks : Nat), .bool true]) ∧ w' = W) := fun W p c h => by have := find_walk h (by omega) key; rwa [hs] at this
  generalize hI : fnd key ks = i at *
  obtain ⟨o, ho⟩ : ∃ o, vs[i]? = some o := ⟨_, List.getElem?_eq_getElem (by omega)⟩
  obtain ⟨oA, hoA⟩ : ∃ o : Obj, o = .cells #[.bool l, .slice kp n kc, .slice vp n vc, .slice ip ni ic] 121 := ⟨_, rfl⟩
  obtain ⟨oB, hoB⟩ : ∃ o : Obj, o = .cells #[.string d, .int .i64 p, .int .i64 ln] 77 := ⟨_, rfl⟩
  obtain ⟨oC, hoC⟩ : ∃ o : Obj, o = .cells #[.bool false, .slice none 0 0, .slice none 0 0, .slice none 0 0] 121 := ⟨_, rfl⟩
  obtain ⟨oD, hoD⟩ : ∃ o : Obj, o = .cells #[.string ⟨#[]⟩, .int .i64 0, .int .i64 0] 77 := ⟨_, rfl⟩
  have K0 : Kept w ((((w.alloc oA).alloc oB).alloc oC).alloc oD) := ((((Kept.refl w).alloc _).alloc _).alloc _).alloc _
  have S0 : ((((w.alloc oA).alloc oB).alloc oC).alloc oD).heap.size = w.heap.size + 4 := by rw [size_alloc, size_alloc, size_alloc, size_alloc]
  have B0 : C3 ((((w.alloc oA).alloc oB).alloc oC).alloc oD) (w.heap.size + 1) 77 (.string d) (.int .i64 p) (.int .i64 ln) := by
    subst hoB; rw [← size_alloc w oA]; exact (C3.alloc _ 77 _ _ _).kept (((Kept.refl _).alloc _).alloc _)
  have R0 : C4 ((((w.alloc oA).alloc oB).alloc oC).alloc oD) (w.heap.size + 1 + 1) 121 (.bool false) (.slice none 0 0) (.slice none 0 0) (.slice none 0 0) := by
    subst hoC; rw [show w.heap.size + 1 + 1 = ((w.alloc oA).alloc oB).heap.size by rw [size_alloc, size_alloc]]; exact (C4.alloc _ 121 _ _ _ _).kept ((Kept.refl _).alloc _)
  have Q0 : C3 ((((w.alloc oA).alloc oB).alloc oC).alloc oD) (w.heap.size + 1 + 1 + 1) 77 (.string ⟨#[]⟩) (.int .i64 0) (.int .i64 0) := by
    subst hoD; rw [show w.heap.size + 1 + 1 + 1 = (((w.alloc oA).alloc oB).alloc oC).heap.size by rw [size_alloc, size_alloc, size_alloc]]; exact C3.alloc _ 77 _ _ _
  subst hoA; subst hoB; subst hoC; subst hoD
  clear hk hv hkl hvl
  go_enter Tryz.func93, Tryz.ntmps93
  go_wp2_with (first
    | (go_at_call 113
       (with_reducible refine (HL.out _ K0).mono ?_)
       rintro e v1 ⟨kp1, kc1, vp1, rfl, O1, O2, k1⟩
       rw [S0] at O1 O2
       have S1 := k1.size
       rw [S0] at S1
       have s1 : SS w v1 (w.heap.size + 4) (w.heap.size + 1 + 1) (w.heap.size + 1 + 1 + 1) v1.heap.size kp1 n kc1 (kcl ks) vp1 n n (vcl vs) := ⟨K0.trans k1, R0.kept k1, Q0.kept k1, O1, O2, by omega, by omega, by omega, S1, by omega, by omega⟩
       have b1 := B0.kept k1
       clear B0 R0 Q0 K0 HL S0 k1 O1 O2
       have x1 := C4.alloc v1 121 (.bool true) (.slice kp1 n kc1) (.slice vp1 n n) (.slice none 0 0)
       have k2 := (Kept.refl v1).alloc (.cells #[.bool true, .slice kp1 n kc1, .slice vp1 n n, .slice none 0 0] 121)
       have s2 := s1.kept k2
       have b2 := b1.kept k2
       have z2 := size_alloc v1 (.cells #[.bool true, .slice kp1 n kc1, .slice vp1 n n, .slice none 0 0] 121)
       clear k2 s1 b1)
    | (go_at_call 64
       (with_reducible refine (HF.out _ _ _ s2.OK.rw).mono ?_)
       rintro e v2 ⟨rfl, hv2⟩
       rw [hv2]
       clear hv2 HF
       obtain ⟨g, rfl⟩ := s2.OV.some_of (by omega)
       obtain ⟨t0, t1, t2⟩ := s2.OV.val ho
       have hgl : g < v1.heap.size + 1 := by have := (s2.OV.out.lt g rfl).2; rwa [z2] at this
       obtain ⟨⟨r0, u0⟩, ⟨r1, u1⟩, ⟨r2, u2⟩, o4, g4⟩ := s2.OV.put ho ⟨d, p, ln⟩
       have a0 : ∀ o', ((v1.alloc (.cells #[.bool true, .slice kp1 n kc1, .slice (some ⟨g, 0, none⟩) n n, .slice none 0 0] 121)).alloc o').cell? ⟨g, i * 3, none⟩ = some (.string o.d) := fun o' => ((Kept.refl _).alloc o').cell r0
       have a1 : ∀ o', (((v1.alloc (.cells #[.bool true, .slice kp1 n kc1, .slice (some ⟨g, 0, none⟩) n n, .slice none 0 0] 121)).setCell ⟨g, i * 3, none⟩ (.string d)).alloc o').cell? ⟨g, i * 3 + 1, none⟩ = some (.int .i64 o.p) := fun o' => ((Kept.refl _).alloc o').cell r1
       have a2 : ∀ o', ((((v1.alloc (.cells #[.bool true, .slice kp1 n kc1, .slice (some ⟨g, 0, none⟩) n n, .slice none 0 0] 121)).setCell ⟨g, i * 3, none⟩ (.string d)).setCell ⟨g, i * 3 + 1, none⟩ (.int .i64 p)).alloc o').cell? ⟨g, i * 3 + 2, none⟩ = some (.int .i64 o.l) := fun o' => ((Kept.refl _).alloc o').cell r2
       have a3 : ∀ o', ((v1.alloc (.cells #[.bool true, .slice kp1 n kc1, .slice (some ⟨g, 0, none⟩) n n, .slice none 0 0] 121)).alloc o').frozen? ⟨g, i * 3, none⟩ = false := fun o' => (s2.OV.kept ((Kept.refl _).alloc o')).fz _
       have a4 : ∀ o', (((v1.alloc (.cells #[.bool true, .slice kp1 n kc1, .slice (some ⟨g, 0, none⟩) n n, .slice none 0 0] 121)).setCell ⟨g, i * 3, none⟩ (.string d)).alloc o').frozen? ⟨g, i * 3 + 1, none⟩ = false := fun o' => (Own.kept ⟨(s2.OV.out.stored (i * 3) (.string d)).1⟩ ((Kept.refl _).alloc o')).fz _
       have a5 : ∀ o', ((((v1.alloc (.cells #[.bool true, .slice kp1 n kc1, .slice (some ⟨g, 0, none⟩) n n, .slice none 0 0] 121)).setCell ⟨g, i * 3, none⟩ (.string d)).setCell ⟨g, i * 3 + 1, none⟩ (.int .i64 p)).alloc o').frozen? ⟨g, i * 3 + 2, none⟩ = false := fun o' => (Own.kept ⟨((s2.OV.out.stored (i * 3) (.string d)).1.stored (i * 3 + 1) (.int .i64 p)).1⟩ ((Kept.refl _).alloc o')).fz _
       have x4 := (x1.grown g4 (x1.own_ne s2.OV (by decide))).kept ((Kept.refl _).alloc (.cells #[.string o.d, .int .i64 o.p, .int .i64 o.l] 77))
       have y4 := C3.alloc ((((v1.alloc (.cells #[.bool true, .slice kp1 n kc1, .slice (some ⟨g, 0, none⟩) n n, .slice none 0 0] 121)).setCell ⟨g, i * 3, none⟩ (.string d)).setCell ⟨g, i * 3 + 1, none⟩ (.int .i64 p)).setCell ⟨g, i * 3 + 2, none⟩ (.int .i64 ln)) 77 (.string o.d) (.int .i64 o.p) (.int .i64 o.l)
       rw [size_set, size_set, size_set, z2] at y4
       have s4 := (s2.valsG g4 o4).kept ((Kept.refl _).alloc (.cells #[.string o.d, .int .i64 o.p, .int .i64 o.l] 77))
       have b3 : ∀ o', C3 ((v1.alloc (.cells #[.bool true, .slice kp1 n kc1, .slice (some ⟨g, 0, none⟩) n n, .slice none 0 0] 121)).alloc o') (w.heap.size + 1) 77 (.string d) (.int .i64 p) (.int .i64 ln) := fun o' => b2.kept ((Kept.refl _).alloc o')
       have c0 := fun o' => (b3 o').cs.1
       have c1 := fun o' => (b3 o').cs.2.1
       have c2 := fun o' => (b3 o').cs.2.2
       have x3 : ∀ o', C4 ((v1.alloc (.cells #[.bool true, .slice kp1 n kc1, .slice (some ⟨g, 0, none⟩) n n, .slice none 0 0] 121)).alloc o') v1.heap.size 121 _ _ _ _ := fun o' => x1.kept ((Kept.refl _).alloc o')
       have d2 := fun o' => (x3 o').cs.2.2.1
       clear o4 g4 r0 r1 r2 u0 u1 u2))
  generalize hW4 : (((((v1.alloc (.cells #[.bool true, .slice kp1 n kc1, .slice (some ⟨g, 0, none⟩) n n, .slice none 0 0] 121)).setCell ⟨g, i * 3, none⟩ (.string d)).setCell ⟨g, i * 3 + 1, none⟩ (.int .i64 p)).setCell ⟨g, i * 3 + 2, none⟩ (.int .i64 ln)).alloc (.cells #[.string o.d, .int .i64 o.p, .int .i64 o.l] 77)) = W4 at x4 y4 s4 ⊢
  clear hW4 s2 x3 b3 b2 x1 a0 a1 a2 a3 a4 a5 c0 c1 c2 d2 t0 t1 t2
  have s5 := s4
  have x5 := x4
  have y5 := y4
  clear s4 x4 y4
  obtain ⟨c0, c1, c2, c3⟩ := x5.cs
  obtain ⟨d0, d1, d2⟩ := y5.cs
  obtain ⟨⟨g0, f0⟩, ⟨g1, f1⟩, ⟨g2, f2⟩, ⟨g3, f3⟩, hR⟩ := ready4 s5.R.out (.bool true) (.slice kp1 n kc1) (.slice (some ⟨g, 0, none⟩) n n) (.slice none 0 0)
  have hQ0 : ((((W4.setCell ⟨(w.heap.size + 1 + 1), 0, none⟩ (.bool true)).setCell ⟨(w.heap.size + 1 + 1), 1, none⟩ (.slice kp1 n kc1)).setCell ⟨(w.heap.size + 1 + 1), 2, none⟩ (.slice (some ⟨g, 0, none⟩) n n)).setCell ⟨(w.heap.size + 1 + 1), 3, none⟩ (.slice none 0 0)).heap[w.heap.size + 1 + 1 + 1]? = _ := (others4 W4 (by omega) _ _ _ _).trans s5.Q.out
  obtain ⟨⟨q0, y0⟩, ⟨q1, y1⟩, ⟨q2, y2⟩, hQ⟩ := ready3 hQ0 (.string o.d) (.int .i64 o.p) (.int .i64 o.l)
  go_region
  all_goals
    obtain ⟨F1, F2, F3, F4, F5⟩ := s5.done (by omega) (.bool true) (.slice kp1 n kc1) (.slice (some ⟨g, 0, none⟩) n n) (.slice none 0 0) (.string o.d) (.int .i64 o.p) (.int .i64 o.l)
    generalize hWF : (((((((W4.setCell ⟨(w.heap.size + 1 + 1), 0, none⟩ (.bool true)).setCell ⟨(w.heap.size + 1 + 1), 1, none⟩ (.slice kp1 n kc1)).setCell ⟨(w.heap.size + 1 + 1), 2, none⟩ (.slice (some ⟨g, 0, none⟩) n n)).setCell ⟨(w.heap.size + 1 + 1), 3, none⟩ (.slice none 0 0)).setCell ⟨(w.heap.size + 1 + 1 + 1), 0, none⟩ (.string o.d)).setCell ⟨(w.heap.size + 1 + 1 + 1), 1, none⟩ (.int .i64 o.p)).setCell ⟨(w.heap.size + 1 + 1 + 1), 2, none⟩ (.int .i64 o.l)) = WF at F1 F2 F3 F4 F5 ⊢
    clear hWF x5 s5 y5 g0 f0 g1 f1 g2 f2 g3 f3 hR hQ0 q0 y0 q1 y1 q2 y2 hQ c0 c1 c2 c3 d0 d1 d2
    go_wp2
    refine bodyPost_ret (v := .tuple #[.agg #[.bool true, .slice kp1 n kc1, .slice (some ⟨g, 0, none⟩) n n, .slice none 0 0], .agg #[.string o.d, .int .i64 o.p, .int .i64 o.l], .bool true]) ?_ rfl ⟨_, _, _, _, o, ho, rfl, (F3.kept (Kept.refl WF).drew).mono (by omega), (F4.kept (Kept.refl WF).drew).mono (by omega), F5.drew⟩
    exact results_three (p := 6) (q := 7) (u := 8) (ty := 121) (tz := 77) rfl _ _ (w.heap.size + 1 + 1) (w.heap.size + 1 + 1 + 1) 121 77 #[.bool true, .slice kp1 n kc1, .slice (some ⟨g, 0, none⟩) n n, .slice none 0 0] #[.string o.d, .int .i64 o.p, .int .i64 o.l] (0, 0) (0, 0) _ _ rfl F1 Tryz.underlying121 rfl size121 rfl F2 Tryz.underlying77 rfl size77

def oldV (ks : List ByteArray) (vs : List Vl) (key : ByteArray) : Vl := if isk key ks = true then (vs[fnd key ks]?).getD ⟨⟨#[]⟩, -1, 0⟩ else ⟨⟨#[]⟩, -1, 0⟩

theorem set_walk {w : World} {l : Bool} {kp vp ip : Option Addr} {n kc vc ni ic : Nat} {ks : List ByteArray} {vs : List Vl} (hk : Rw w 1 kp n kc (kcl ks)) (hv : Rw w 3 vp n vc (vcl vs)) (hn : n ≤ 99999) (key : ByteArray) (v : Vl) :
    Calls Tryz.prog 93 #[.agg #[.bool l, .slice kp n kc, .slice vp n vc, .slice ip ni ic], .string key, .agg #[.string v.d, .int .i64 v.p, .int .i64 v.l]] w fun e w' => ∃ kp' m kc' vp' vc', e = .returned (.tuple #[.agg #[.bool true, .slice kp' m kc', .slice vp' m vc', .slice none 0 0], .agg #[.string (oldV ks vs key).d, .int .i64 (oldV ks vs key).p, .int .i64 (oldV ks vs key).l], .bool (isk key ks)]) ∧ Own w' w.heap.size 9 1 kp' m kc' (kcl (setK ks key)) ∧ Own w' w.heap.size 77 3 vp' m vc' (vcl (setV ks vs key v)) ∧ Kept w w' := by
  by_cases hs : isk key ks = true
  · refine (set_old hk hv hn key v hs).mono ?_
    rintro e w' ⟨kp', kc', vp', vc', o, ho, rfl, h1, h2, h3⟩
    have e1 : oldV ks vs key = o := by unfold oldV; rw [if_pos hs, ho]; rfl
    have e2 : setK ks key = ks := by unfold setK; rw [if_pos hs]
    have e3 : setV ks vs key v = vs.set (fnd key ks) v := by unfold setV; rw [if_pos hs]
    rw [e1, e2, e3, hs]
    exact ⟨_, _, _, _, _, rfl, h1, h2, h3⟩
  · have hs' : isk key ks = false := by simpa using hs
    refine (set_new hk hv hn key v hs').mono ?_
    rintro e w' ⟨kp', kc', vp', vc', rfl, h1, h2, h3⟩
    have e1 : oldV ks vs key = ⟨⟨#[]⟩, -1, 0⟩ := by unfold oldV; rw [if_neg hs]
    have e2 : setK ks key = ins ks (fnd key ks) key := by unfold setK; rw [if_neg hs]
    have e3 : setV ks vs key v = ins vs (fnd key ks) v := by unfold setV; rw [if_neg hs]
    rw [e1, e2, e3, hs']
    exact ⟨_, _, _, _, _, rfl, h1, h2, h3⟩

def delK (ks : List ByteArray) (key : ByteArray) : List ByteArray := if isk key ks = true then del ks (fnd key ks) else ks
def delV (ks : List ByteArray) (vs : List Vl) (key : ByteArray) : List Vl := if isk key ks = true then del vs (fnd key ks) else vs


def Ki.cells (x : Ki) : List Value := [.string x.s, .string x.v, .int .i64 x.pg, .int .i64 x.ln]
def kicl (l : List Ki) : List Value := l.flatMap Ki.cells
theorem kicl_cons (v : Ki) (r : List Ki) : kicl (v :: r) = v.cells ++ kicl r := by simp [kicl]
theorem kicl_length : ∀ vs : List Ki, (kicl vs).length = vs.length * 4
  | [] => rfl
  | v :: r => by rw [kicl_cons, List.length_append, kicl_length r]; simp [Ki.cells]; omega
structure Gv (w : World) (p : Option Addr) (n c : Nat) (l : List Ki) : Prop where
  out : Rw w 4 p n c (kicl l)

theorem Gv.len {w : World} {p : Option Addr} {n c : Nat} {l : List Ki} (h : Gv w p n c l) : l.length = n := by
  have := h.out.len; rw [kicl_length] at this; omega
end Go.Proofs.YtifeihnhkbagpaaGreatDoor.N