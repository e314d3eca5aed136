/- The walk of the law on bytes that differ within four: it returns true. Conditions: the string's size is within Go's bound, the number and the four bytes are within their kinds. -/
import Derived.Test.YtidikhagpdfbcaaJoin
import Derived.Laws.IdiomStrings
import Derived.Deep.RegionWith
namespace Go.Proofs.Ytidikhagpdfbcaa
open Go.ChangeShapes Go.WideShapes Go.ChangeAt Go.RowKit
open Chk

/-- The place, as Go reckons it, lies within the text. -/
theorem place (a : Int) (n : Nat) (hn : 0 < n) (hn' : n ≤ 600) : ∃ k : Nat, k < n ∧ (wrap64 (a.tmod (n : Int) + (n : Int))).tmod (n : Int) = (k : Int) := by
  have h1 : a.tmod (n : Int) < n := Int.tmod_lt_of_pos _ (by omega)
  have h2 : -(n : Int) < a.tmod (n : Int) := by
    have := Int.lt_tmod_of_pos a (b := (n : Int)) (by omega)
    exact this
  have h3 : wrap64 (a.tmod (n : Int) + (n : Int)) = a.tmod (n : Int) + (n : Int) := IntWalk.wrap64_in _ ⟨by omega, by omega⟩
  rw [h3]
  have h4 : 0 ≤ a.tmod (n : Int) + (n : Int) := by omega
  generalize a.tmod (n : Int) + (n : Int) = m at *
  rw [Int.tmod_eq_emod_of_nonneg h4]
  exact ⟨(m % (n : Int)).toNat, by have := Int.emod_lt_of_pos m (show 0 < (n : Int) by omega); have := Int.emod_nonneg m (show (n : Int) ≠ 0 by omega); omega, by have := Int.emod_nonneg m (show (n : Int) ≠ 0 by omega); omega⟩

/-- The bytes behind i rounds. -/
def turned (t : ByteArray) (k : Nat) (d : Nat → Nat) (i j : Nat) : Nat := if k ≤ j ∧ j < k + i then byte t j ^^^ d (j - k) else byte t j


/-- What the world holds at the head of round i: the four bytes, the text's bytes behind i rounds; below, all is as it was. -/
structure At (w : World) (t : ByteArray) (k : Nat) (d : Nat → Nat) (i : Nat) (wx : World) : Prop where
  four : ∀ j, j < 4 → wx.cell? ⟨w.heap.size, j, none⟩ = some (.int .u8 (d j : Nat))
  text : ∀ j, j < t.size → wx.cell? ⟨w.heap.size + 1, j, none⟩ = some (.int .u8 (turned t k d i j : Nat))
  free : ∀ j, j < t.size → wx.frozen? ⟨w.heap.size + 1, j, none⟩ = false
  size : w.heap.size + 2 ≤ wx.heap.size
  kept : Below w.heap.size w wx

theorem At.start (w : World) (t : ByteArray) (k : Nat) (d : Nat → Nat) (cap : Nat) :
    At w t k d 0 ((w.alloc (.cells #[.int .u8 (d 0 : Nat), .int .u8 (d 1 : Nat), .int .u8 (d 2 : Nat), .int .u8 (d 3 : Nat)] 30)).alloc
      (.cells (bytesRow t cap) 5 ((bytesRow t cap).size, (bytesRow t cap).size + 1))).drew := by
  have hs1 : (w.alloc (.cells #[.int .u8 (d 0 : Nat), .int .u8 (d 1 : Nat), .int .u8 (d 2 : Nat), .int .u8 (d 3 : Nat)] 30)).heap.size = w.heap.size + 1 := by
    show (w.heap.push _).size = _; simp
  refine ⟨?_, ?_, ?_, ?_, ?_⟩
  · intro j hj
    rw [World.cell?_drew, World.cell?_alloc_past _ _ _ (by omega), World.cell?_alloc_at _ _ _ _ rfl]
    match j, hj with
    | 0, _ => rfl
    | 1, _ => rfl
    | 2, _ => rfl
    | 3, _ => rfl
  · intro j hj
    rw [World.cell?_drew, ← hs1, World.cell?_alloc_mark, bytesRow_at t cap j (by exact hj)]
    have : turned t k d 0 j = byte t j := by unfold turned; rw [if_neg (by omega)]
    rw [this]
    unfold byte
    rw [dif_pos hj]
    rfl
  · intro j hj
    rw [World.frozen?_drew, ← hs1, World.frozen?_alloc_mark]
    have : ¬ (bytesRow t cap).size ≤ j := by
      have := (Array.getElem?_eq_some_iff.1 (bytesRow_at t cap j (by exact hj))).1
      omega
    simp [this]
  · show w.heap.size + 2 ≤ ((w.heap.push _).push _).size; simp
  · exact (((Below.refl _ w).alloc (Nat.le_refl _) _).alloc (by omega) _).drew

theorem At.step {w : World} {t : ByteArray} {k : Nat} {d : Nat → Nat} {i : Nat} {wx : World} (h : At w t k d i wx) :
    At w t k d (i + 1) (wx.setCell ⟨w.heap.size + 1, k + i, none⟩ (.int .u8 (byte t (k + i) ^^^ d i : Nat))).drew := by
  refine ⟨?_, ?_, ?_, ?_, ?_⟩
  · intro j hj
    rw [World.cell?_drew, World.cell?_setCell_other _ _ _ _ (by simp)]
    exact h.four j hj
  · intro j hj
    by_cases e : j = k + i
    · subst e
      rw [World.cell?_drew, World.cell?_setCell_same _ _ _ (h.text _ hj)]
      have : turned t k d (i + 1) (k + i) = byte t (k + i) ^^^ d i := by
        unfold turned; rw [if_pos (by omega), Nat.add_sub_cancel_left]
      rw [this]
    · rw [World.cell?_drew, World.cell?_setCell_other _ _ _ _ (fun h' => e (congrArg Addr.off h').symm), h.text j hj]
      have : turned t k d (i + 1) j = turned t k d i j := by
        unfold turned
        by_cases h1 : k ≤ j ∧ j < k + i
        · rw [if_pos h1, if_pos (by omega)]
        · rw [if_neg h1, if_neg (by omega)]
      rw [this]
  · intro j hj
    rw [World.frozen?_drew, World.frozen?_setCell]; exact h.free j hj
  · show w.heap.size + 2 ≤ (wx.setCell _ _).heap.size
    have := h.size
    simpa [World.setCell] using this
  · exact (h.kept.setCell (by simp) _).drew

/-- A cell of a block that was there. -/
theorem Grown.cell {w w' : World} (h : Grown w w') {b o : Nat} {v : Value} (ha : w.cell? ⟨b, o, none⟩ = some v) : w'.cell? ⟨b, o, none⟩ = some v := by
  rw [h.1.cell (World.block_lt_of_cell? w _ ha) (fun f => f)]
  exact ha

/-- The text behind i rounds. -/
def tText (t : ByteArray) (k : Nat) (d : Nat → Nat) (i : Nat) : ByteArray := ⟨((List.range t.size).map fun j => UInt8.ofNat (turned t k d i j)).toArray⟩

theorem turned_lt (t : ByteArray) (k : Nat) (d : Nat → Nat) (hd : ∀ j, d j < 256) (i j : Nat) : turned t k d i j < 256 := by
  unfold turned
  split
  · exact Nat.xor_lt_two_pow (n := 8) (byte_lt _ _) (hd _)
  · exact byte_lt _ _

theorem tText_size (t : ByteArray) (k : Nat) (d : Nat → Nat) (i : Nat) : (tText t k d i).size = t.size := by
  unfold tText; show (List.toArray _).size = _; simp

theorem tText_byte (t : ByteArray) (k : Nat) (d : Nat → Nat) (hd : ∀ j, d j < 256) (i j : Nat) (hj : j < t.size) : byte (tText t k d i) j = turned t k d i j := by
  unfold byte
  rw [dif_pos (by rw [tText_size]; exact hj)]
  have h1 : (tText t k d i)[j]'(by rw [tText_size]; exact hj) = UInt8.ofNat (turned t k d i j) := by
    have h2 : (((List.range t.size).map fun j => UInt8.ofNat (turned t k d i j)).toArray)[j]'(by simpa using hj) = UInt8.ofNat (turned t k d i j) := by simp
    exact h2
  rw [h1]
  have := turned_lt t k d hd i j
  simp
  omega

theorem text_of {w : World} {t : ByteArray} {k : Nat} {d : Nat → Nat} (hd : ∀ j, d j < 256) {i : Nat} {wx : World} (h : At w t k d i wx) (cap : Nat) {W : World} (hg : Grown wx W) :
    (convert 31 9 (.slice (some ⟨w.heap.size + 1, 0, none⟩) t.size cap)).run Try.prog W = .ok (.string (tText t k d i)) W := by
  have := run_convert_bytes_back (P := Try.prog) W 31 9 5 ⟨w.heap.size + 1, 0, none⟩ cap ((List.range t.size).map fun j => UInt8.ofNat (turned t k d i j)) Try.underlying31 Try.underlying5 Try.underlying9 (by
    intro j hj
    have hj' : j < t.size := by simpa using hj
    have hadd : (⟨w.heap.size + 1, 0, none⟩ : Addr).add j = ⟨w.heap.size + 1, j, none⟩ := by unfold Addr.add; split <;> simp_all
    rw [hadd, Grown.cell hg (h.text j hj')]
    have := turned_lt t k d hd i j
    simp
    omega)
  simp only [List.length_map, List.length_range] at this
  exact this

/-- The texts are one just if their checks are. -/
theorem same_check (t : ByteArray) (k : Nat) (d : Nat → Nat) (hd : ∀ j, d j < 256) (i : Nat) (hi : i ≤ 4) (hk : k + i ≤ t.size)
    (e : check (byte (tText t k d i)) (tText t k d i).size = check (byte t) t.size) : tText t k d i = t := by
  rw [tText_size] at e
  obtain ⟨m, hm⟩ : ∃ m, t.size = k + i + m := ⟨t.size - (k + i), by omega⟩
  have key : ∀ j, j < t.size → byte (tText t k d i) j = byte t j := by
    rw [hm] at e ⊢
    refine burst _ _ (byte_lt _) (byte_lt _) k i m hi ?_ ?_ e
    · intro j hj
      rw [tText_byte t k d hd i j (by omega)]; unfold turned; rw [if_neg (by omega)]
    · intro j hj hj2
      rw [tText_byte t k d hd i j (by omega)]; unfold turned; rw [if_neg (by omega)]
  apply ByteArray.ext_getElem (by rw [tText_size])
  intro j h1 h2
  have := key j h2
  unfold byte at this
  rw [dif_pos h1, dif_pos h2] at this
  exact UInt8.toNat_inj.1 this

/-- The world has at most new blocks since wr: under a name that nothing lays open. -/
structure Gd (wr W : World) : Prop where
  out : Grown wr W

theorem awake_in {wr W : World} (h : Gd wr W) : Calls Try.prog 7 #[] W fun e w' => e = .returned (.bool true) ∧ Gd wr w' :=
  (awake_walk W).mono fun _ _ ⟨he, hg⟩ => ⟨he, ⟨Grown.trans h.out hg⟩⟩

theorem of_in {wr W : World} (x : ByteArray) (hx : x.size ≤ maxLen) (h : Gd wr W) :
    Calls Try.prog 8 #[.string x] W fun e w' => e = .returned (.int .u32 (check (byte x) x.size : Nat)) ∧ Gd wr w' :=
  (of_walk x hx W).mono fun _ _ ⟨he, hg⟩ => ⟨he, ⟨Grown.trans h.out hg⟩⟩

set_option maxHeartbeats 4000000 in
theorem bursts_walk (s : ByteArray) (hs : s.size ≤ maxLen) (a : Int) (d : Nat → Nat) (hd : ∀ j, d j < 256) (w : World) :
    Calls Try.prog 6 #[.string s, .int .i64 a, .agg #[.int .u8 (d 0 : Nat), .int .u8 (d 1 : Nat), .int .u8 (d 2 : Nat), .int .u8 (d 3 : Nat)]] w
      fun e w' => e = .returned (.bool true) ∧ w.keptBut w' (fun _ => False) := by
  have hf0 : (few s).size ≤ maxLen := by have := few_size s; unfold maxLen; omega
  have hs0 : (few s).size ≤ 600 := few_size s
  have hfw := few_walk s hs
  generalize few s = t at *
  clear hs
  by_cases hz : t.size = 0
  · have hz' : (t.size : Int) = 0 := by omega
    go_enter Try.func6, Try.ntmps6
    go_wp2_with (first
      | (go_at_call 9; refine (hfw _).mono ?_; rintro e v2 ⟨rfl, rfl⟩)
      | (go_at_call 7; refine (awake_walk _).mono ?_; rintro e v1 ⟨rfl, hg1⟩))
    go_ret
    exact ⟨rfl, World.keptBut_trans (((Grown.refl w).alloc _ _).1) hg1.1⟩
  · have hpos : 0 < (t.size : Int) := by omega
    have hc := fun (w : World) => run_bytes_of_string (P := Try.prog) w 9 31 5 t Try.underlying9 Try.underlying31 Try.underlying5
    have hz0 : ((t.size : Int) == 0) = false := by
      rw [beq_eq_false_iff_ne]; omega
    obtain ⟨k, hk, ek⟩ := place a t.size (by omega) hs0
    go_enter Try.func6, Try.ntmps6
    go_wp2_with (go_at_call 9; refine (hfw _).mono ?_; rintro e v2 ⟨rfl, rfl⟩)
    clear hc hfw
    try simp only [hz0]
    generalize wrap64 (a.tmod ↑t.size + ↑t.size) = z1
    generalize hcap : grownCap _ _ _ _ = cap
    generalize a.tmod ↑t.size = z2
    clear ek hcap
    go_loopg [10] 4 (fun g i wx => ∃ i' : Nat, i' + g = 4 ∧ k + i' ≤ t.size ∧ i = .int .i64 i' ∧ At w t k d i' wx)
    case atStart =>
      exact ⟨0, rfl, by omega, rfl, At.start w t k d cap⟩
    case round =>
      obtain ⟨i, hi, hki, rfl, hat⟩ := hrel
      by_cases hmore : i < 4 ∧ k + i < t.size
      · obtain ⟨h4, hkn⟩ := hmore
        cases gk with
        | zero => omega
        | succ g =>
          have c0 := hat.four i h4
          have c1 := hat.text (k + i) hkn
          have fz := hat.free (k + i) hkn
          have hsz := hat.size
          have hv : turned t k d i (k + i) = byte t (k + i) := by unfold turned; rw [if_neg (by omega)]
          rw [hv] at c1
          have ex := u8_xor_nat (byte t (k + i)) (d i) (byte_lt _ _) (hd i)
          have HA : Hid (At w t k d i wr) := hat
          have HI : Hid (i + (g + 1) = 4) := hi
          clear hv hat hi
          go_wp2
          go_region
          go_wp2
          go_roundg g
          case measure => omega
          case rel => exact ⟨i + 1, by have := HI.out; omega, by omega, by go_num, HA.out.step⟩
      · have hout : (i : Int) < 4 → ¬ ((k : Int) + (i : Int) < (t.size : Int)) := fun h => by omega
        have hi4 : i ≤ 4 := by omega
        have hbool : i = 4 ∨ k + i = t.size := by omega
        have HA : Hid (At w t k d i wr) := hat
        have HI : Hid (i ≤ 4 ∧ (i = 4 ∨ k + i = t.size)) := ⟨hi4, hbool⟩
        clear hat hi
        have hconv : ∀ W, Gd wr W → (convert 31 9 (.slice (some ⟨w.heap.size + 1, 0, none⟩) t.size cap)).run Try.prog W = .ok (.string (tText t k d i)) W :=
          fun W hg => text_of hd HA.out cap hg.out
        have hsame := same_check t k d hd i HI.out.1 hki
        have htt : (tText t k d i).size ≤ maxLen := by rw [tText_size]; exact hf0
        have HK : Hid (w.keptBut wr (fun _ => False)) := HA.out.kept.frame _
        clear HA HI
        generalize tText t k d i = tt at hconv hsame htt
        have hg0 : Gd wr wr.drew := ⟨(Grown.refl wr).drew⟩
        have hbb : ∃ b : Bool, (tt.toList == t.toList) = b ∧ (((check (byte tt) tt.size : Nat) : Int) == ((check (byte t) t.size : Nat) : Int)) = b := by
          by_cases he : tt = t
          · exact ⟨true, by rw [he]; exact beq_self_eq_true _, by rw [he]; exact beq_self_eq_true _⟩
          · exact ⟨false, beq_eq_false_iff_ne.2 fun hl => he (bytes_inj (by rw [← ByteArray.toList_eq, ← ByteArray.toList_eq]; exact hl)), beq_eq_false_iff_ne.2 fun hc => he (hsame (by omega))⟩
        obtain ⟨b, hb1, hb2⟩ := hbb
        clear hsame hmore
        by_cases h4 : i = 4
        · subst h4
          clear hout hbool hki
          go_wp2
          go_region_with (first
            | (go_at_call 7; refine (awake_in (wr := wr) ?_).mono ?_; assumption; rintro e v1 ⟨rfl, hg1⟩)
            | (go_at_call 8; refine (of_in (wr := wr) _ ?_ ?_).mono ?_; assumption; assumption; rintro e v2 ⟨rfl, hg2⟩))
          all_goals go_wp2
          all_goals go_ret
          all_goals exact ⟨rfl, World.keptBut_trans HK.out hg2.out.1⟩
        · have h4' : (i : Int) < 4 := by omega
          have hkn : ¬ ((k : Int) + (i : Int) < (t.size : Int)) := by omega
          clear hout hbool hki
          go_wp2
          go_region_with (first
            | (go_at_call 7; refine (awake_in (wr := wr) ?_).mono ?_; assumption; rintro e v1 ⟨rfl, hg1⟩)
            | (go_at_call 8; refine (of_in (wr := wr) _ ?_ ?_).mono ?_; assumption; assumption; rintro e v2 ⟨rfl, hg2⟩))
          all_goals go_wp2
          all_goals go_ret
          all_goals exact ⟨rfl, World.keptBut_trans HK.out hg2.out.1⟩
end Go.Proofs.Ytidikhagpdfbcaa
