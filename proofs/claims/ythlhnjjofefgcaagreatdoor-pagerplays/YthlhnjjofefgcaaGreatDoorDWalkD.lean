/- The walk of slices.Repeat at one sector: a row of so many sectors that say the same, in memory of its own. Conditions: no more than 16384 of them. -/
import Derived.Test.YthlhnjjofefgcaaGreatDoorDWalkC
import Derived.BigQuiet
import Derived.Deep.RegionWith
import Derived.Deep.RegionHeld3
import Derived.Deep.AppendLies
namespace Go.Proofs.YthlhnjjofefgcaaGreatDoor.D
open Go.ChangeShapes Go.WideShapes Go.ChangeAt Go.RowKit

/-- Cells copied within memory, of elements of any size. -/
theorem run_copy_any (w : World) (dT sT ty elem : TypeId) (g o dLen dCap : Nat) (a : Addr) (sLen sCap : Nat) (cur : Array Value) (t : TypeId) (cs : List Value) (size n : Nat)
    (hu : Tryz.prog.underlying dT = some (.slice elem)) (hs : (Tryz.prog.info? elem).map (·.size) = some size)
    (hg : w.heap[g]? = some (.cells cur t (0, 0))) (hm : Nat.min sLen dLen = n) (hn : cs.length = n * size)
    (hsrc : ∀ j v, cs[j]? = some v → w.cell? (a.add j) = some v) (hfit : o + cs.length ≤ cur.size) (h1 : ∀ v ∈ cs, v.oneCell' = true) :
    (Builtin.copy_ #[dT, sT] ty #[.slice (some ⟨g, o, none⟩) dLen dCap, .slice (some a) sLen sCap]).run Tryz.prog w =
      .ok (.int .i64 (n : Nat)) (w.setRow g (cur.toList.take o ++ cs ++ cur.toList.drop (o + cs.length)).toArray) := by
  have hl := run_loadCells_list (P := Tryz.prog) w a cs hsrc
  have hst := run_storeCells_at Tryz.prog g o t cs 0 cur w hg (by simpa using hfit) h1
  cases hq : Tryz.prog.info? elem with
  | none => simp [hq] at hs
  | some i =>
    have hi : i.size = size := by simpa [hq] using hs
    rw [hn] at hl
    simp [Builtin.copy_, run_underlying hu, Builtin.lenOf, Builtin.firstCells, sizeOf, typeInfo, hq, hi, hm, hl, hst]
    rfl

theorem info86 : (Tryz.prog.info? 86).map (·.size) = some 3 := by kernel_rfl
theorem infoz58 : (Tryz.prog.info? 86).map (fun i => (i.zero, i.size, i.bytes)) = some (some (.agg #[.string ⟨#[]⟩, .bool false, .int .i64 0]), 3, 32) := by kernel_rfl

/-- So many times the same cells. -/
def times (n : Nat) (l : List Value) : List Value := (List.replicate n l).flatten
theorem times_length (n : Nat) (l : List Value) : (times n l).length = n * l.length := by simp [times]
theorem times_add (a b : Nat) (l : List Value) : times (a + b) l = times a l ++ times b l := by
  unfold times
  rw [← List.replicate_append_replicate, List.flatten_append]

/-- A sector at first. -/
def blank (s : ByteArray) : List Value := [.string s, .bool false, .int .i64 0]
theorem blank_length (s : ByteArray) : (blank s).length = 3 := rfl
theorem times_one {n : Nat} {s : ByteArray} : ∀ v ∈ times n (blank s), v.oneCell' = true := by
  intro v hv
  simp only [times, List.mem_flatten, List.mem_replicate] at hv
  obtain ⟨l, ⟨_, rfl⟩, hv⟩ := hv
  simp only [blank, List.mem_cons, List.not_mem_nil, or_false] at hv
  rcases hv with rfl | rfl | rfl <;> rfl

/-- Sectors, of which the first k are laid. -/
structure Laid (s : ByteArray) (g n k : Nat) (w : World) : Prop where
  out : ∃ cur : Array Value, w.heap[g]? = some (.cells cur 86) ∧ cur.size = n * 3 ∧ cur.toList.take (k * 3) = times k (blank s)
  le : k ≤ n

theorem Laid.copy {s : ByteArray} {g n k m : Nat} {w : World} (h : Laid s g n k w) (a : Addr) (dCap sLen sCap ty : Nat) (hm : Nat.min sLen (n - k) = m)
    (hsrc : ∀ j v, (times m (blank s))[j]? = some v → w.cell? (a.add j) = some v) :
    ∃ w', (Builtin.copy_ #[78, 78] ty #[.slice (some ⟨g, k * 3, none⟩) (n - k) dCap, .slice (some a) sLen sCap]).run Tryz.prog w = .ok (.int .i64 (m : Nat)) w' ∧ Laid s g n (k + m) w' ∧ (∀ B, B ≤ g → Below B w w') := by
  obtain ⟨cur, hg, hs, ht⟩ := h.out
  have hml : m ≤ n - k := by rw [← hm]; exact Nat.min_le_right _ _
  have hle := h.le
  have hl : (times m (blank s)).length = m * 3 := by rw [times_length, blank_length]
  refine ⟨_, run_copy_any w 78 78 ty 86 g (k * 3) (n - k) dCap a sLen sCap cur 86 (times m (blank s)) 3 m Tryz.underlying78 info86 hg hm hl hsrc (by omega) times_one, ⟨⟨_, setRow_heap w g _ _ _ _ hg, ?_, ?_⟩, by omega⟩, fun B hB => ?_⟩
  · simp only [List.size_toArray, List.length_append, List.length_take, List.length_drop, Array.length_toList]; omega
  · have e : ((k + m) * 3) = (cur.toList.take (k * 3) ++ times m (blank s)).length := by
      simp only [List.length_append, List.length_take, Array.length_toList]; omega
    rw [e, List.take_left, ht, times_add]
  · exact ⟨rfl, rfl, rfl, by simp [World.setRow], fun x hx => setRow_other w g x _ (by omega)⟩

set_option maxHeartbeats 2000000 in
set_option maxRecDepth 100000 in
theorem repeat_walk (n : Nat) (hn : n ≤ 16384) (s : ByteArray) (b : Nat) (w : World) (hb : w.heap[b]? = some (.cells #[.string s, .bool false, .int .i64 0] 86)) :
    Calls Tryz.prog 39 #[.slice (some ⟨b, 0, none⟩) 1 1, .int .i64 (n : Nat)] w fun e w' => e = .returned (.slice (some ⟨w.heap.size, 0, none⟩) n n) ∧ w'.heap[w.heap.size]? = some (.cells (times n (blank s)).toArray 86) ∧ Kept w w' := by
  obtain ⟨i0, hi, hz0, hz1, hz2⟩ := info_parts infoz58
  obtain ⟨w1, mk, ho, hg⟩ := run_makeSlice_full (P := Tryz.prog) w w.heap.size 78 86 i0 _ 3 Tryz.underlying78 hi hz0 hz1 .i64 .i64 n (by omega) (by rw [hz2]; omega) (by unfold maxLen; omega) (Nat.le_refl _)
  have hk1 : Kept w w1 := ⟨(Below.refl _ w).grown hg (Nat.le_refl _) (fun _ e => by cases e)⟩
  have hL : Laid s w.heap.size n 0 w1 := by
    rcases ho.2 with ⟨e, _⟩ | ⟨g, cap, cur, e, _, hc, _, _, hs, _⟩
    · cases e
    · injection e with e1 _ e3
      injection e1 with e1
      injection e1 with e1
      subst e1 e3
      exact ⟨⟨cur, hc, hs, by simp [times]⟩, Nat.zero_le _⟩
  have hb1 := hk1.block hb
  obtain ⟨k0, hk0⟩ : ∃ k0, Nat.min 1 n = k0 := ⟨_, rfl⟩
  obtain ⟨w2, cp, hL2, hB2⟩ := hL.copy (k := 0) (m := k0) ⟨b, 0, none⟩ n 1 1 3 hk0 (fun j v hv => by
    have hk : k0 ≤ 1 := by rw [← hk0]; exact Nat.min_le_left _ _
    rw [Addr.add_lit, Nat.zero_add, cell_of_row w1 b _ _ _ _ hb1]
    rcases Nat.le_one_iff_eq_zero_or_eq_one.1 hk with e | e
    · subst e; simp [times] at hv
    · subst e; simpa [times, blank] using hv)
  rw [Nat.zero_mul, Nat.sub_zero] at cp
  rw [Nat.zero_add] at hL2
  have hk2 : Kept w w2 := ⟨hk1.out.trans (hB2 _ (Nat.le_refl _))⟩
  have hz : k0 = 0 → n = 0 := by intro e; rw [e] at hk0; have : Nat.min 1 n = min 1 n := rfl; omega
  clear hi hz0 hz1 hz2 ho hg hk1 hL hb1 hB2 hk0
  have hd : decide ((n : Int) < 0) = false := by simp
  have HZ : Hid (k0 = 0 → n = 0) := hz
  clear hz
  go_enter Tryz.func39, Tryz.ntmps39
  go_wp2_with (go_at_call 58; refine (Tryz.bits_Mul 1 n (by omega) (by omega) _).mono ?_; rintro e w' ⟨rfl, hw'⟩; rw [hw']; clear hw'; have e1 : 1 * n / 18446744073709551616 = 0 := (by omega); have e2 : 1 * n % 18446744073709551616 = n := (by omega); rw [e1, e2])
  go_loopg [8] (n - k0) (fun q iv wx => ∃ k : Nat, q = n - k ∧ iv = .int .i64 k ∧ (k = 0 → n = 0) ∧ Laid s w.heap.size n k wx ∧ Kept w wx)
  case atStart => exact ⟨k0, rfl, rfl, HZ.out, hL2, hk2⟩
  case round =>
    obtain ⟨k, hq, rfl, hz, hL, hk⟩ := hrel
    have hkn := hL.le
    by_cases hlt : k < n
    · have hd : decide ((k : Int) < (n : Int)) = true := by simpa using hlt
      have i1 : (0 : Int) ≤ (k : Int) := by omega
      have i2 : (k : Int) ≤ (n : Int) := by omega
      obtain ⟨m, hm⟩ : ∃ m, Nat.min k (n - k) = m := ⟨_, rfl⟩
      have hLd : Laid s w.heap.size n k wr.drew := ⟨hL.out, hL.le⟩
      obtain ⟨w3, cp3, hL3, hB3⟩ := hLd.copy (m := m) ⟨w.heap.size, 0, none⟩ (n - k) k n 3 hm (fun j v hv => by
        obtain ⟨cur, hg, hs, ht⟩ := hLd.out
        have hmk : m ≤ k := by rw [← hm]; exact Nat.min_le_left _ _
        have hj : j < m * 3 := by have := (List.getElem?_eq_some_iff.1 hv).1; rw [times_length, blank_length] at this; exact this
        rw [Addr.add_lit, Nat.zero_add, cell_of_row _ _ _ _ _ _ hg]
        have e : (times k (blank s))[j]? = some v := by
          rw [show k = m + (k - m) by omega, times_add, List.getElem?_append_left (by rw [times_length, blank_length]; exact hj)]
          exact hv
        rw [← ht, List.getElem?_take_of_lt (by omega)] at e
        simpa using e)
      have hk3 : Kept w w3 := ⟨hk.drew.out.trans (hB3 _ (Nat.le_refl _))⟩
      have hm2 : m ≤ n - k := by rw [← hm]; exact Nat.min_le_right _ _
      have hm1 : 0 < m := by have h1 : 0 < k := Nat.pos_of_ne_zero (fun e => by have := hz e; omega); have : Nat.min k (n - k) = min k (n - k) := rfl; omega
      have HM : Hid (m ≤ n - k ∧ 0 < m ∧ m ≤ 16384) := ⟨hm2, hm1, by omega⟩
      clear hm hLd hB3 hm2 hm1
      go_wp2
      go_region
      go_wp2
      go_roundg (n - (k + m))
      case measure => have := HM.out; omega
      case rel => exact ⟨k + m, rfl, by obtain ⟨h1, h2, h3⟩ := HM.out; have e : wrap64 ((k : Int) + (m : Int)) = ((k + m : Nat) : Int) := (by unfold wrap64; omega); rw [e], fun e => by have := HM.out; omega, hL3, hk3⟩
    · have hd : decide ((k : Int) < (n : Int)) = false := by simpa using hlt
      go_wp2
      go_ret
      obtain rfl : k = n := by omega
      obtain ⟨cur, hg, hs, ht⟩ := hL.out
      refine ⟨rfl, ?_, hk⟩
      rw [hg, ← ht, List.take_of_length_le (by simp [hs])]
end Go.Proofs.YthlhnjjofefgcaaGreatDoor.D
