/- Joined: DWalkD DWalkE DWalkF DWalkG DWalkH. What is proved of the functions beneath ChainNeeds. Conditions: those that each row names. -/
import Derived.Test.YtlndfjeijbjdeaaDoorZah
import Derived.BigQuiet
import Derived.Deep.RegionWith
import Derived.Deep.RegionHeld3
import Derived.Deep.AppendLies
import Derived.Deep.RegionLaw
namespace Go.Proofs.YtlndfjeijbjdeaaDoor.D
open Go.ChangeShapes Go.WideShapes Go.ChangeAt Go.RowKit

/-- Cells copied within memory, of elements of any size. -/
theorem run_copy_any (w : World) (dT sT ty elem : TypeId) (g o dLen dCap : Nat) (a : Addr) (sLen sCap : Nat) (cur : Array Value) (t : TypeId) (cs : List Value) (size n : Nat)
    (hu : Tryd.prog.underlying dT = some (.slice elem)) (hs : (Tryd.prog.info? elem).map (·.size) = some size)
    (hg : w.heap[g]? = some (.cells cur t (0, 0))) (hm : Nat.min sLen dLen = n) (hn : cs.length = n * size)
    (hsrc : ∀ j v, cs[j]? = some v → w.cell? (a.add j) = some v) (hfit : o + cs.length ≤ cur.size) (h1 : ∀ v ∈ cs, v.oneCell' = true) :
    (Builtin.copy_ #[dT, sT] ty #[.slice (some ⟨g, o, none⟩) dLen dCap, .slice (some a) sLen sCap]).run Tryd.prog w =
      .ok (.int .i64 (n : Nat)) (w.setRow g (cur.toList.take o ++ cs ++ cur.toList.drop (o + cs.length)).toArray) := by
  have hl := run_loadCells_list (P := Tryd.prog) w a cs hsrc
  have hst := run_storeCells_at Tryd.prog g o t cs 0 cur w hg (by simpa using hfit) h1
  cases hq : Tryd.prog.info? elem with
  | none => simp [hq] at hs
  | some i =>
    have hi : i.size = size := by simpa [hq] using hs
    rw [hn] at hl
    simp [Builtin.copy_, run_underlying hu, Builtin.lenOf, Builtin.firstCells, sizeOf, typeInfo, hq, hi, hm, hl, hst]
    rfl

theorem info48 : (Tryd.prog.info? 48).map (·.size) = some 3 := by kernel_rfl
theorem infoz58 : (Tryd.prog.info? 48).map (fun i => (i.zero, i.size, i.bytes)) = some (some (.agg #[.string ⟨#[]⟩, .bool false, .int .i64 0]), 3, 32) := by kernel_rfl

/-- So many times the same cells. -/
def times (n : Nat) (l : List Value) : List Value := (List.replicate n l).flatten
theorem times_length (n : Nat) (l : List Value) : (times n l).length = n * l.length := by simp [times]
theorem times_add (a b : Nat) (l : List Value) : times (a + b) l = times a l ++ times b l := by
  unfold times
  rw [← List.replicate_append_replicate, List.flatten_append]

/-- A sector at first. -/
def blank (s : ByteArray) : List Value := [.string s, .bool false, .int .i64 0]
theorem blank_length (s : ByteArray) : (blank s).length = 3 := rfl
theorem times_one {n : Nat} {s : ByteArray} : ∀ v ∈ times n (blank s), v.oneCell' = true := by
  intro v hv
  simp only [times, List.mem_flatten, List.mem_replicate] at hv
  obtain ⟨l, ⟨_, rfl⟩, hv⟩ := hv
  simp only [blank, List.mem_cons, List.not_mem_nil, or_false] at hv
  rcases hv with rfl | rfl | rfl <;> rfl

/-- Sectors, of which the first k are laid. -/
structure Laid (s : ByteArray) (g n k : Nat) (w : World) : Prop where
  out : ∃ cur : Array Value, w.heap[g]? = some (.cells cur 48) ∧ cur.size = n * 3 ∧ cur.toList.take (k * 3) = times k (blank s)
  le : k ≤ n

theorem Laid.copy {s : ByteArray} {g n k m : Nat} {w : World} (h : Laid s g n k w) (a : Addr) (dCap sLen sCap ty : Nat) (hm : Nat.min sLen (n - k) = m)
    (hsrc : ∀ j v, (times m (blank s))[j]? = some v → w.cell? (a.add j) = some v) :
    ∃ w', (Builtin.copy_ #[49, 49] ty #[.slice (some ⟨g, k * 3, none⟩) (n - k) dCap, .slice (some a) sLen sCap]).run Tryd.prog w = .ok (.int .i64 (m : Nat)) w' ∧ Laid s g n (k + m) w' ∧ (∀ B, B ≤ g → Below B w w') := by
  obtain ⟨cur, hg, hs, ht⟩ := h.out
  have hml : m ≤ n - k := by rw [← hm]; exact Nat.min_le_right _ _
  have hle := h.le
  have hl : (times m (blank s)).length = m * 3 := by rw [times_length, blank_length]
  refine ⟨_, run_copy_any w 49 49 ty 48 g (k * 3) (n - k) dCap a sLen sCap cur 48 (times m (blank s)) 3 m Tryd.underlying49 info48 hg hm hl hsrc (by omega) times_one, ⟨⟨_, setRow_heap w g _ _ _ _ hg, ?_, ?_⟩, by omega⟩, fun B hB => ?_⟩
  · simp only [List.size_toArray, List.length_append, List.length_take, List.length_drop, Array.length_toList]; omega
  · have e : ((k + m) * 3) = (cur.toList.take (k * 3) ++ times m (blank s)).length := by
      simp only [List.length_append, List.length_take, Array.length_toList]; omega
    rw [e, List.take_left, ht, times_add]
  · exact ⟨rfl, rfl, rfl, by simp [World.setRow], fun x hx => setRow_other w g x _ (by omega)⟩

set_option maxHeartbeats 2000000 in
set_option maxRecDepth 100000 in
theorem repeat_walk (n : Nat) (hn : n ≤ 16384) (s : ByteArray) (b : Nat) (w : World) (hb : w.heap[b]? = some (.cells #[.string s, .bool false, .int .i64 0] 48)) :
    Calls Tryd.prog 17 #[.slice (some ⟨b, 0, none⟩) 1 1, .int .i64 (n : Nat)] w fun e w' => e = .returned (.slice (some ⟨w.heap.size, 0, none⟩) n n) ∧ w'.heap[w.heap.size]? = some (.cells (times n (blank s)).toArray 48) ∧ Kept w w' := by
  obtain ⟨i0, hi, hz0, hz1, hz2⟩ := info_parts infoz58
  obtain ⟨w1, mk, ho, hg⟩ := run_makeSlice_full (P := Tryd.prog) w w.heap.size 49 48 i0 _ 3 Tryd.underlying49 hi hz0 hz1 .i64 .i64 n (by omega) (by rw [hz2]; omega) (by unfold maxLen; omega) (Nat.le_refl _)
  have hk1 : Kept w w1 := ⟨(Below.refl _ w).grown hg (Nat.le_refl _) (fun _ e => by cases e)⟩
  have hL : Laid s w.heap.size n 0 w1 := by
    rcases ho.2 with ⟨e, _⟩ | ⟨g, cap, cur, e, _, hc, _, _, hs, _⟩
    · cases e
    · injection e with e1 _ e3
      injection e1 with e1
      injection e1 with e1
      subst e1 e3
      exact ⟨⟨cur, hc, hs, by simp [times]⟩, Nat.zero_le _⟩
  have hb1 := hk1.block hb
  obtain ⟨k0, hk0⟩ : ∃ k0, Nat.min 1 n = k0 := ⟨_, rfl⟩
  obtain ⟨w2, cp, hL2, hB2⟩ := hL.copy (k := 0) (m := k0) ⟨b, 0, none⟩ n 1 1 3 hk0 (fun j v hv => by
    have hk : k0 ≤ 1 := by rw [← hk0]; exact Nat.min_le_left _ _
    rw [Addr.add_lit, Nat.zero_add, cell_of_row w1 b _ _ _ _ hb1]
    rcases Nat.le_one_iff_eq_zero_or_eq_one.1 hk with e | e
    · subst e; simp [times] at hv
    · subst e; simpa [times, blank] using hv)
  rw [Nat.zero_mul, Nat.sub_zero] at cp
  rw [Nat.zero_add] at hL2
  have hk2 : Kept w w2 := ⟨hk1.out.trans (hB2 _ (Nat.le_refl _))⟩
  have hz : k0 = 0 → n = 0 := by intro e; rw [e] at hk0; have : Nat.min 1 n = min 1 n := rfl; omega
  clear hi hz0 hz1 hz2 ho hg hk1 hL hb1 hB2 hk0
  have hd : decide ((n : Int) < 0) = false := by simp
  have HZ : Hid (k0 = 0 → n = 0) := hz
  clear hz
  go_enter Tryd.func17, Tryd.ntmps17
  go_wp2_with (go_at_call 33; refine (Tryd.bits_Mul 1 n (by omega) (by omega) _).mono ?_; rintro e w' ⟨rfl, hw'⟩; rw [hw']; clear hw'; have e1 : 1 * n / 18446744073709551616 = 0 := (by omega); have e2 : 1 * n % 18446744073709551616 = n := (by omega); rw [e1, e2])
  go_loopg [8] (n - k0) (fun q iv wx => ∃ k : Nat, q = n - k ∧ iv = .int .i64 k ∧ (k = 0 → n = 0) ∧ Laid s w.heap.size n k wx ∧ Kept w wx)
  case atStart => exact ⟨k0, rfl, rfl, HZ.out, hL2, hk2⟩
  case round =>
    obtain ⟨k, hq, rfl, hz, hL, hk⟩ := hrel
    have hkn := hL.le
    by_cases hlt : k < n
    · have hd : decide ((k : Int) < (n : Int)) = true := by simpa using hlt
      have i1 : (0 : Int) ≤ (k : Int) := by omega
      have i2 : (k : Int) ≤ (n : Int) := by omega
      obtain ⟨m, hm⟩ : ∃ m, Nat.min k (n - k) = m := ⟨_, rfl⟩
      have hLd : Laid s w.heap.size n k wr.drew := ⟨hL.out, hL.le⟩
      obtain ⟨w3, cp3, hL3, hB3⟩ := hLd.copy (m := m) ⟨w.heap.size, 0, none⟩ (n - k) k n 3 hm (fun j v hv => by
        obtain ⟨cur, hg, hs, ht⟩ := hLd.out
        have hmk : m ≤ k := by rw [← hm]; exact Nat.min_le_left _ _
        have hj : j < m * 3 := by have := (List.getElem?_eq_some_iff.1 hv).1; rw [times_length, blank_length] at this; exact this
        rw [Addr.add_lit, Nat.zero_add, cell_of_row _ _ _ _ _ _ hg]
        have e : (times k (blank s))[j]? = some v := by
          rw [show k = m + (k - m) by omega, times_add, List.getElem?_append_left (by rw [times_length, blank_length]; exact hj)]
          exact hv
        rw [← ht, List.getElem?_take_of_lt (by omega)] at e
        simpa using e)
      have hk3 : Kept w w3 := ⟨hk.drew.out.trans (hB3 _ (Nat.le_refl _))⟩
      have hm2 : m ≤ n - k := by rw [← hm]; exact Nat.min_le_right _ _
      have hm1 : 0 < m := by have h1 : 0 < k := Nat.pos_of_ne_zero (fun e => by have := hz e; omega); have : Nat.min k (n - k) = min k (n - k) := rfl; omega
      have HM : Hid (m ≤ n - k ∧ 0 < m ∧ m ≤ 16384) := ⟨hm2, hm1, by omega⟩
      clear hm hLd hB3 hm2 hm1
      go_wp2
      go_region
      go_wp2
      go_roundg (n - (k + m))
      case measure => have := HM.out; omega
      case rel => exact ⟨k + m, rfl, by obtain ⟨h1, h2, h3⟩ := HM.out; have e : wrap64 ((k : Int) + (m : Int)) = ((k + m : Nat) : Int) := (by unfold wrap64; omega); rw [e], fun e => by have := HM.out; omega, hL3, hk3⟩
    · have hd : decide ((k : Int) < (n : Int)) = false := by simpa using hlt
      go_wp2
      go_ret
      obtain rfl : k = n := by omega
      obtain ⟨cur, hg, hs, ht⟩ := hL.out
      refine ⟨rfl, ?_, hk⟩
      rw [hg, ← ht, List.take_of_length_le (by simp [hs])]

/-- A sector: what is there for good, whether it is torn, which write waits for it. -/
structure Sec where
  kept : ByteArray
  torn : Bool
  last : Nat

/-- A write that waits. -/
structure Wr where
  sec : Nat
  bytes : ByteArray

/-- A disk. -/
structure Dk where
  secs : List Sec
  waits : List Wr
  cuts : List Ct
  acts : Nat
  since : Nat
  fails : Nat
  dead : Bool

/-- Sectors in memory. -/
structure SecsAt (w : World) (g : Nat) (l : List Sec) : Prop where
  out : ∃ cur : Array Value, w.heap[g]? = some (.cells cur 48) ∧ ∀ i (h : i < l.length), cur[i * 3]? = some (.string l[i].kept) ∧ cur[i * 3 + 1]? = some (.bool l[i].torn) ∧ cur[i * 3 + 2]? = some (.int .i64 (l[i].last : Nat))

theorem SecsAt.cells {w : World} {g : Nat} {l : List Sec} (h : SecsAt w g l) (i : Nat) (hi : i < l.length) :
    w.cell? ⟨g, i * 3, none⟩ = some (.string l[i].kept) ∧ w.cell? ⟨g, i * 3 + 1, none⟩ = some (.bool l[i].torn) ∧ w.cell? ⟨g, i * 3 + 2, none⟩ = some (.int .i64 (l[i].last : Nat)) := by
  obtain ⟨cur, hg, hc⟩ := h.out
  obtain ⟨h1, h2, h3⟩ := hc i hi
  exact ⟨by rw [cell_of_row w g _ _ _ _ hg]; exact h1, by rw [cell_of_row w g _ _ _ _ hg]; exact h2, by rw [cell_of_row w g _ _ _ _ hg]; exact h3⟩
theorem SecsAt.frozen {w : World} {g : Nat} {l : List Sec} (h : SecsAt w g l) (i : Nat) : w.frozen? ⟨g, i, none⟩ = false := by
  obtain ⟨cur, hg, _⟩ := h.out
  exact frozen_of_row w g _ _ _ hg
theorem SecsAt.block {w w' : World} {g : Nat} {l : List Sec} (h : SecsAt w g l) (hb : w'.heap[g]? = w.heap[g]?) : SecsAt w' g l := by
  obtain ⟨cur, hg, hc⟩ := h.out
  exact ⟨cur, hb.trans hg, hc⟩

theorem SecsAt.set {w : World} {g : Nat} {l : List Sec} (h : SecsAt w g l) (i : Nat) (hi : i < l.length) (f : Sec → Sec) (j : Nat) (hj : j ≤ 2) (v : Value)
    (h0 : j = 0 → v = .string (f l[i]).kept) (h0' : j ≠ 0 → (f l[i]).kept = l[i].kept) (h1 : j = 1 → v = .bool (f l[i]).torn) (h1' : j ≠ 1 → (f l[i]).torn = l[i].torn)
    (h2 : j = 2 → v = .int .i64 ((f l[i]).last : Nat)) (h2' : j ≠ 2 → (f l[i]).last = l[i].last) :
    SecsAt (w.setCell ⟨g, i * 3 + j, none⟩ v) g (l.modify i f) := by
  obtain ⟨cur, hg, hc⟩ := h.out
  refine ⟨_, heap_setCell_same w g (i * 3 + j) _ _ _ hg, fun k hk => ?_⟩
  have hk' : k < l.length := by simpa using hk
  obtain ⟨e0, e1, e2⟩ := hc k hk'
  rw [List.getElem_modify]
  by_cases hik : i = k
  · subst hik
    have l0 := (Array.getElem?_eq_some_iff.1 e0).1
    have l1 := (Array.getElem?_eq_some_iff.1 e1).1
    have l2 := (Array.getElem?_eq_some_iff.1 e2).1
    rw [if_pos rfl]
    refine ⟨?_, ?_, ?_⟩
    · by_cases e : j = 0
      · subst e
        rw [Nat.add_zero, Array.getElem?_setIfInBounds_self_of_lt l0, h0 rfl]
      · rw [Array.getElem?_setIfInBounds_ne (by omega), e0, h0' e]
    · by_cases e : j = 1
      · subst e
        rw [Array.getElem?_setIfInBounds_self_of_lt l1, h1 rfl]
      · rw [Array.getElem?_setIfInBounds_ne (by omega), e1, h1' e]
    · by_cases e : j = 2
      · subst e
        rw [Array.getElem?_setIfInBounds_self_of_lt l2, h2 rfl]
      · rw [Array.getElem?_setIfInBounds_ne (by omega), e2, h2' e]
  · rw [if_neg hik]
    exact ⟨by rw [Array.getElem?_setIfInBounds_ne (by omega)]; exact e0, by rw [Array.getElem?_setIfInBounds_ne (by omega)]; exact e1, by rw [Array.getElem?_setIfInBounds_ne (by omega)]; exact e2⟩

/-- Writes as cells. -/
def wrCells (l : List Wr) : List Value := l.flatMap fun x => [.int .i64 (x.sec : Nat), .string x.bytes]
theorem wrCells_get : ∀ (l : List Wr) (j : Nat) (h : j < l.length), (wrCells l)[j * 2]? = some (.int .i64 (l[j].sec : Nat)) ∧ (wrCells l)[j * 2 + 1]? = some (.string l[j].bytes)
  | x :: r, 0, _ => by simp [wrCells]
  | x :: r, j + 1, h => by
    have := wrCells_get r j (by simpa using h)
    rw [show (j + 1) * 2 = j * 2 + 2 by omega, show j * 2 + 2 + 1 = j * 2 + 1 + 2 by omega]
    simpa [wrCells] using this
theorem wrCells_snoc (l : List Wr) (x : Wr) : wrCells (l ++ [x]) = wrCells l ++ [.int .i64 (x.sec : Nat), .string x.bytes] := by simp [wrCells]
theorem wrCells_set : ∀ (l : List Wr) (j : Nat) (x : Wr), ((wrCells l).set (j * 2) (.int .i64 (x.sec : Nat))).set (j * 2 + 1) (.string x.bytes) = wrCells (l.set j x)
  | [], j, x => by simp [wrCells]
  | y :: r, 0, x => by simp [wrCells]
  | y :: r, j + 1, x => by
    have := wrCells_set r j x
    rw [show (j + 1) * 2 = j * 2 + 2 by omega, show j * 2 + 2 + 1 = j * 2 + 1 + 2 by omega]
    simpa [wrCells] using this

/-- A disk in memory: its block, its sectors' block, what waits, cuts. -/
structure DAt (B : Nat) (w : World) (b g : Nat) (vw vc : Value) (d : Dk) : Prop where
  blk : w.heap[b]? = some (.cells #[.slice (some ⟨g, 0, none⟩) d.secs.length d.secs.length, vw, vc, .int .i64 (d.acts : Nat), .int .i64 (d.since : Nat), .int .i64 (d.fails : Nat), .bool d.dead] 54)
  secs : SecsAt w g d.secs
  waits : w.ownsRow B 94 2 vw d.waits.length (wrCells d.waits)
  cuts : CutsAt 0 w vc d.cuts
  leb : B ≤ b
  leg : B ≤ g

/-- A disk in memory. -/
structure DiskAt (B : Nat) (w : World) (b g : Nat) (d : Dk) : Prop where
  out : ∃ vw vc, DAt B w b g vw vc d

theorem DAt.cell {B : Nat} {w : World} {b g : Nat} {vw vc : Value} {d : Dk} (h : DAt B w b g vw vc d) :
    w.cell? ⟨b, 0, none⟩ = some (.slice (some ⟨g, 0, none⟩) d.secs.length d.secs.length) ∧ w.cell? ⟨b, 1, none⟩ = some vw ∧ w.cell? ⟨b, 2, none⟩ = some vc ∧ w.cell? ⟨b, 3, none⟩ = some (.int .i64 (d.acts : Nat)) ∧
    w.cell? ⟨b, 4, none⟩ = some (.int .i64 (d.since : Nat)) ∧ w.cell? ⟨b, 5, none⟩ = some (.int .i64 (d.fails : Nat)) ∧ w.cell? ⟨b, 6, none⟩ = some (.bool d.dead) := by
  refine ⟨?_, ?_, ?_, ?_, ?_, ?_, ?_⟩ <;> (rw [cell_of_row w b _ _ _ _ h.blk]; rfl)
theorem DAt.frozen {B : Nat} {w : World} {b g : Nat} {vw vc : Value} {d : Dk} (h : DAt B w b g vw vc d) (j : Nat) : w.frozen? ⟨b, j, none⟩ = false := frozen_of_row w b j _ _ h.blk

theorem Kept.disk {w w' : World} (h : Kept w w') {B b g : Nat} {vw vc : Value} {d : Dk} (k : DAt B w b g vw vc d) : DAt B w' b g vw vc d := by
  obtain ⟨cur, hg, hc⟩ := k.secs.out
  exact ⟨h.block k.blk, ⟨cur, h.block hg, hc⟩, own_kept h k.waits, k.cuts.on (h.on (Nat.zero_le _)), k.leb, k.leg⟩
theorem Kept.dk {w w' : World} (h : Kept w w') {B b g : Nat} {d : Dk} (k : DiskAt B w b g d) : DiskAt B w' b g d := by
  obtain ⟨vw, vc, k⟩ := k.out
  exact ⟨vw, vc, h.disk k⟩

/-- A new disk. -/
def Dk.new (n : Nat) (cuts : List Ct) : Dk := ⟨List.replicate n ⟨whole ⟨#[]⟩, false, 0⟩, [], cuts, 0, 0, 0, false⟩

theorem times_get (s : ByteArray) : ∀ (n i : Nat), i < n → (times n (blank s))[i * 3]? = some (.string s) ∧ (times n (blank s))[i * 3 + 1]? = some (.bool false) ∧ (times n (blank s))[i * 3 + 2]? = some (.int .i64 0)
  | n + 1, 0, _ => by simp [times, blank, List.replicate_succ]
  | n + 1, i + 1, h => by
    have := times_get s n i (by omega)
    rw [show (i + 1) * 3 = i * 3 + 3 by omega, show i * 3 + 3 + 1 = i * 3 + 1 + 3 by omega, show i * 3 + 3 + 2 = i * 3 + 2 + 3 by omega]
    simpa [times, blank, List.replicate_succ] using this

theorem two_new (w : World) (o p : Obj) : ((w.alloc o).alloc p).heap[w.heap.size + 1]? = some p := by
  have := heap_alloc_new (w.alloc o) p
  rwa [show (w.alloc o).heap.size = w.heap.size + 1 by simp] at this

theorem repeat_at (n : Nat) (hn : n ≤ 16384) (s : ByteArray) (b : Nat) (w : World) (hb : w.heap[b]? = some (.cells #[.string s, .bool false, .int .i64 0] 48)) :
    Calls Tryd.prog 17 #[.slice (some ⟨b, 0, none⟩) 1 1, .int .i64 (n : Nat)] w fun e w' => ∃ g, e = .returned (.slice (some ⟨g, 0, none⟩) n n) ∧ w.heap.size ≤ g ∧ w'.heap[g]? = some (.cells (times n (blank s)).toArray 48) ∧ Kept w w' := by
  refine (repeat_walk n hn s b w hb).mono ?_
  rintro e w' ⟨rfl, h1, h2⟩
  exact ⟨_, rfl, Nat.le_refl _, h1, h2⟩

set_option maxHeartbeats 2000000 in
set_option maxRecDepth 100000 in
theorem new_walk {B : Nat} {w : World} {v : Value} {l : List Ct} (n : Nat) (hn : n ≤ 16384) (h : CutsAt B w v l) (hB : B ≤ w.heap.size) (hl : l.length ≤ 5) (hfl : ∀ c ∈ l, c.fates.length * 8 ≤ 140737488355328) :
    Calls Tryd.prog 9 #[.int .i64 (n : Nat), v] w fun e w' => ∃ b g, e = .returned (.tuple #[.pointer (some ⟨b, 0, none⟩), .int .i64 0]) ∧ DiskAt w.heap.size w' b g (Dk.new n l) ∧ Kept w w' := by
  have hd1 : decide ((n : Int) < 0) = false := by simp
  have hd2 : decide ((16384 : Int) < (n : Int)) = false := by simp; omega
  have hwh := whole_walk ⟨#[]⟩ (by decide)
  unfold Dk.new
  generalize whole ⟨#[]⟩ = s0 at hwh ⊢
  go_enter Tryd.func9, Tryd.ntmps9
  go_wp2_with (first
    | (go_at_call 16; refine (hwh _).mono ?_; rintro e w1 ⟨rfl, hk1⟩)
    | (go_at_call 17; refine (repeat_at n hn s0 _ _ (two_new _ _ _)).mono ?_; rintro e w2 ⟨g, rfl, hlg, hs2, hk2⟩; have hk20 : Kept w w2 := ((hk1.alloc _).alloc _).trans hk2; have hlg0 : w.heap.size ≤ g := Nat.le_trans ((hk1.alloc _).alloc _).size hlg; clear hk2 hlg)
    | (go_at_call 18; refine (own_walk (h.on (hk20.on hB)) (Nat.le_trans hB hk20.size) hl hfl).mono ?_; rintro e w3 ⟨v3, rfl, hc3, hk3⟩; obtain ⟨p3, q3, e3, hc3'⟩ := hc3.out; subst e3))
  go_ret2
  refine ⟨_, g, rfl, ⟨_, _, by simp only [List.length_replicate]; exact heap_alloc_new _ _, ?_, World.ownsRow_nil _ _ _ _, hc3.on (((Kept.refl w3).alloc _).on (Nat.zero_le _)), (hk20.trans hk3).size, hlg0⟩, (hk20.trans hk3).alloc _⟩
  refine ⟨_, (((Kept.refl w3).alloc _)).block (hk3.block hs2), fun i hi => ?_⟩
  have hi' : i < n := by simpa using hi
  have := times_get s0 n i hi'
  simpa using this

theorem sectors_walk {B : Nat} {w : World} {b g : Nat} {d : Dk} (h : DiskAt B w b g d) : Calls Tryd.prog 24 #[.pointer (some ⟨b, 0, none⟩)] w fun e w' => e = .returned (.int .i64 (d.secs.length : Nat)) ∧ w' = w := by
  obtain ⟨vw, vc, k⟩ := h.out
  obtain ⟨c0, c1, c2, c3, c4, c5, c6⟩ := k.cell
  go_enter Tryd.func24, Tryd.ntmps24
  go_wp2
  go_ret
  exact ⟨rfl, rfl⟩
theorem dead_walk {B : Nat} {w : World} {b g : Nat} {d : Dk} (h : DiskAt B w b g d) : Calls Tryd.prog 36 #[.pointer (some ⟨b, 0, none⟩)] w fun e w' => e = .returned (.bool d.dead) ∧ w' = w := by
  obtain ⟨vw, vc, k⟩ := h.out
  obtain ⟨c0, c1, c2, c3, c4, c5, c6⟩ := k.cell
  go_enter Tryd.func36, Tryd.ntmps36
  go_wp2
  go_ret
  exact ⟨rfl, rfl⟩
theorem has_walk {B : Nat} {w : World} {b g : Nat} {d : Dk} (h : DiskAt B w b g d) (n : Int) : Calls Tryd.prog 37 #[.pointer (some ⟨b, 0, none⟩), .int .i64 n] w fun e w' => e = .returned (.bool (decide (0 ≤ n ∧ n < (d.secs.length : Int)))) ∧ w' = w := by
  obtain ⟨vw, vc, k⟩ := h.out
  obtain ⟨c0, c1, c2, c3, c4, c5, c6⟩ := k.cell
  by_cases h0 : 0 ≤ n
  · go_enter Tryd.func37, Tryd.ntmps37
    go_wp2
    go_ret
    exact ⟨by simp [h0], rfl⟩
  · go_enter Tryd.func37, Tryd.ntmps37
    go_wp2
    go_ret
    exact ⟨by simp; omega, rfl⟩

/-- How many writes the next cut has fates for. -/
def Dk.fated (d : Dk) : Nat := match d.cuts with
  | [] => 0
  | c :: _ => c.fates.length

theorem fated_walk {B : Nat} {w : World} {b g : Nat} {d : Dk} (h : DiskAt B w b g d) : Calls Tryd.prog 58 #[.pointer (some ⟨b, 0, none⟩)] w fun e w' => e = .returned (.int .i64 (d.fated : Nat)) ∧ w' = w := by
  obtain ⟨vw, vc, k⟩ := h.out
  obtain ⟨c0, c1, c2, c3, c4, c5, c6⟩ := k.cell
  obtain ⟨p, c, rfl, h1, h2, hc⟩ := k.cuts.out
  cases hd : d.cuts with
  | nil =>
    rw [hd] at c2
    have ef : d.fated = 0 := by simp [Dk.fated, hd]
    go_enter Tryd.func58, Tryd.ntmps58
    go_wp2
    go_ret
    exact ⟨by rw [ef]; rfl, rfl⟩
  | cons x r =>
    have ef : d.fated = x.fates.length := by simp [Dk.fated, hd]
    rw [hd] at hc
    obtain ⟨bc, off, vf, rfl, hs, hx, hy, hf⟩ := hc 0 (by simp)
    obtain ⟨p', c', rfl, _⟩ := hf.out
    rw [Nat.zero_mul, Nat.add_zero] at hx hy
    have hlen : d.cuts.length = r.length + 1 := by rw [hd]; rfl
    rw [hlen] at c2
    go_enter Tryd.func58, Tryd.ntmps58
    go_wp2
    go_ret
    exact ⟨by rw [ef]; rfl, rfl⟩

theorem not54 : ¬ Calm 54 := by unfold Calm; decide
theorem not48 : ¬ Calm 48 := by unfold Calm; decide
theorem not94 : ¬ Calm 94 := by unfold Calm; decide

theorem DAt.ne {B : Nat} {w : World} {b g : Nat} {vw vc : Value} {d : Dk} (h : DAt B w b g vw vc d) : g ≠ b := by
  intro e
  obtain ⟨cur, hg, _⟩ := h.secs.out
  rw [e, h.blk] at hg
  injection hg with hg
  injection hg with _ e2 _
  exact absurd e2 (by decide)

/-- A disk's own block turns. -/
theorem DAt.turn {B : Nat} {w : World} {b g : Nat} {vw vc : Value} {d : Dk} (h : DAt B w b g vw vc d) (j : Nat) (v : Value) :
    SecsAt (w.setCell ⟨b, j, none⟩ v) g d.secs ∧ (w.setCell ⟨b, j, none⟩ v).ownsRow B 94 2 vw d.waits.length (wrCells d.waits) ∧ CutsAt 0 (w.setCell ⟨b, j, none⟩ v) vc d.cuts ∧ On B w (w.setCell ⟨b, j, none⟩ v) := by
  have ho : On B w (w.setCell ⟨b, j, none⟩ v) := (On.refl B w).setCell h.leb h.blk not54 j v
  exact ⟨h.secs.block (Below.heap_setCell w ⟨b, j, none⟩ v g h.ne), own_set h.waits h.blk (by decide) v, h.cuts.on (ho.mono (Nat.zero_le _)), ho⟩

theorem DAt.setActs {B : Nat} {w : World} {b g : Nat} {vw vc : Value} {d : Dk} (h : DAt B w b g vw vc d) (x : Nat) : DAt B (w.setCell ⟨b, 3, none⟩ (.int .i64 (x : Nat))) b g vw vc { d with acts := x } :=
  ⟨by rw [heap_setCell_same w b 3 _ _ _ h.blk]; rfl, (h.turn _ _).1, (h.turn _ _).2.1, (h.turn _ _).2.2.1, h.leb, h.leg⟩
theorem DAt.setSince {B : Nat} {w : World} {b g : Nat} {vw vc : Value} {d : Dk} (h : DAt B w b g vw vc d) (x : Nat) : DAt B (w.setCell ⟨b, 4, none⟩ (.int .i64 (x : Nat))) b g vw vc { d with since := x } :=
  ⟨by rw [heap_setCell_same w b 4 _ _ _ h.blk]; rfl, (h.turn _ _).1, (h.turn _ _).2.1, (h.turn _ _).2.2.1, h.leb, h.leg⟩
theorem DAt.setFails {B : Nat} {w : World} {b g : Nat} {vw vc : Value} {d : Dk} (h : DAt B w b g vw vc d) (x : Nat) : DAt B (w.setCell ⟨b, 5, none⟩ (.int .i64 (x : Nat))) b g vw vc { d with fails := x } :=
  ⟨by rw [heap_setCell_same w b 5 _ _ _ h.blk]; rfl, (h.turn _ _).1, (h.turn _ _).2.1, (h.turn _ _).2.2.1, h.leb, h.leg⟩
theorem DAt.setDead {B : Nat} {w : World} {b g : Nat} {vw vc : Value} {d : Dk} (h : DAt B w b g vw vc d) (x : Bool) : DAt B (w.setCell ⟨b, 6, none⟩ (.bool x)) b g vw vc { d with dead := x } :=
  ⟨by rw [heap_setCell_same w b 6 _ _ _ h.blk]; rfl, (h.turn _ _).1, (h.turn _ _).2.1, (h.turn _ _).2.2.1, h.leb, h.leg⟩
theorem DAt.setNone {B : Nat} {w : World} {b g : Nat} {vw vc : Value} {d : Dk} (h : DAt B w b g vw vc d) : DAt B (w.setCell ⟨b, 1, none⟩ (.slice none 0 0)) b g (.slice none 0 0) vc { d with waits := [] } :=
  ⟨by rw [heap_setCell_same w b 1 _ _ _ h.blk]; rfl, (h.turn _ _).1, World.ownsRow_nil _ _ _ _, (h.turn _ _).2.2.1, h.leb, h.leg⟩
theorem DAt.setCuts {B : Nat} {w : World} {b g : Nat} {vw vc : Value} {d : Dk} (h : DAt B w b g vw vc d) (v : Value) (l : List Ct) (hl : CutsAt 0 w v l) : DAt B (w.setCell ⟨b, 2, none⟩ v) b g vw v { d with cuts := l } :=
  ⟨by rw [heap_setCell_same w b 2 _ _ _ h.blk]; rfl, (h.turn _ _).1, (h.turn _ _).2.1, hl.on ((h.turn 2 v).2.2.2.mono (Nat.zero_le _)), h.leb, h.leg⟩

/-- A sector turns. -/
theorem DAt.sec {B : Nat} {w : World} {b g : Nat} {vw vc : Value} {d : Dk} (h : DAt B w b g vw vc d) (i : Nat) (v : Value) (l : List Sec) (hl : l.length = d.secs.length) (hs : SecsAt (w.setCell ⟨g, i, none⟩ v) g l) :
    DAt B (w.setCell ⟨g, i, none⟩ v) b g vw vc { d with secs := l } ∧ On B w (w.setCell ⟨g, i, none⟩ v) := by
  obtain ⟨cur, hg, _⟩ := h.secs.out
  have ho : On B w (w.setCell ⟨g, i, none⟩ v) := (On.refl B w).setCell h.leg hg not48 i v
  refine ⟨⟨?_, hs, own_set h.waits hg (by decide) v, h.cuts.on (ho.mono (Nat.zero_le _)), h.leb, h.leg⟩, ho⟩
  rw [Below.heap_setCell w ⟨g, i, none⟩ v b h.ne.symm, h.blk, hl]

theorem DAt.setLast {B : Nat} {w : World} {b g : Nat} {vw vc : Value} {d : Dk} (h : DAt B w b g vw vc d) (i : Nat) (hi : i < d.secs.length) (x : Nat) :
    DAt B (w.setCell ⟨g, i * 3 + 2, none⟩ (.int .i64 (x : Nat))) b g vw vc { d with secs := d.secs.modify i fun s => { s with last := x } } ∧ On B w (w.setCell ⟨g, i * 3 + 2, none⟩ (.int .i64 (x : Nat))) :=
  h.sec _ _ _ (by simp) (h.secs.set i hi (fun s => { s with last := x }) 2 (Nat.le_refl _) _ (fun e => absurd e (by decide)) (fun _ => rfl) (fun e => absurd e (by decide)) (fun _ => rfl) (fun _ => rfl) (fun e => absurd rfl e))
theorem DAt.setKept {B : Nat} {w : World} {b g : Nat} {vw vc : Value} {d : Dk} (h : DAt B w b g vw vc d) (i : Nat) (hi : i < d.secs.length) (x : ByteArray) :
    DAt B (w.setCell ⟨g, i * 3, none⟩ (.string x)) b g vw vc { d with secs := d.secs.modify i fun s => { s with kept := x } } ∧ On B w (w.setCell ⟨g, i * 3, none⟩ (.string x)) :=
  h.sec _ _ _ (by simp) (h.secs.set i hi (fun s => { s with kept := x }) 0 (by omega) _ (fun _ => rfl) (fun e => absurd rfl e) (fun e => absurd e (by decide)) (fun _ => rfl) (fun e => absurd e (by decide)) (fun _ => rfl))
theorem DAt.setTorn {B : Nat} {w : World} {b g : Nat} {vw vc : Value} {d : Dk} (h : DAt B w b g vw vc d) (i : Nat) (hi : i < d.secs.length) (x : Bool) :
    DAt B (w.setCell ⟨g, i * 3 + 1, none⟩ (.bool x)) b g vw vc { d with secs := d.secs.modify i fun s => { s with torn := x } } ∧ On B w (w.setCell ⟨g, i * 3 + 1, none⟩ (.bool x)) :=
  h.sec _ _ _ (by simp) (h.secs.set i hi (fun s => { s with torn := x }) 1 (by omega) _ (fun e => absurd e (by decide)) (fun _ => rfl) (fun _ => rfl) (fun e => absurd rfl e) (fun e => absurd e (by decide)) (fun _ => rfl))

theorem Kept.drewN {a b : World} (h : Kept a b) (n : Nat) : Kept a (b.drewN n) := ⟨h.out.trans ⟨rfl, rfl, rfl, Nat.le_refl _, fun _ _ => rfl⟩⟩
/-- What is left of a write. -/
def settle1 (x : Wr) (fate : Nat) (s : Sec) : Sec := if fate = 0 then { s with last := 0 } else ⟨x.bytes, fate == 2, 0⟩
def Dk.settle (d : Dk) (x : Wr) (fate : Nat) : Dk := { d with secs := d.secs.modify x.sec (settle1 x fate) }
/-- A write as a value. -/
def Wr.val (x : Wr) : Value := .agg #[.int .i64 (x.sec : Nat), .string x.bytes]

set_option maxHeartbeats 2000000 in
set_option maxRecDepth 100000 in
theorem settle_walk {B : Nat} {w : World} {b g : Nat} {vw vc : Value} {d : Dk} (k0 : DAt B w b g vw vc d) (hB : B ≤ w.heap.size) (x : Wr) (hx : x.sec < d.secs.length) (f : Nat) (hf : f ≤ 2) :
    Calls Tryd.prog 60 #[.pointer (some ⟨b, 0, none⟩), x.val, .int .i64 (f : Nat)] w fun e w' => e = .returned (.tuple #[]) ∧ DAt B w' b g vw vc (d.settle x f) ∧ On B w w' := by
  have hk1 := (Kept.refl w).alloc (.cells #[.int .i64 (x.sec : Nat), .string x.bytes] 94)
  have k1 := hk1.disk k0
  obtain ⟨c0, _⟩ := k1.cell
  have hnew : (w.alloc (.cells #[.int .i64 (x.sec : Nat), .string x.bytes] 94)).heap[w.heap.size]? = some (.cells #[.int .i64 (x.sec : Nat), .string x.bytes] 94) := heap_alloc_new w _
  unfold Wr.val
  have i1 : (0 : Int) ≤ (x.sec : Int) := by omega
  have i2 : (x.sec : Int) < (d.secs.length : Int) := by omega
  have hng : g ≠ w.heap.size := by
    obtain ⟨cur, hg, _⟩ := k0.secs.out
    have := (Array.getElem?_eq_some_iff.1 hg).1
    omega
  go_enter Tryd.func60, Tryd.ntmps60
  go_wp2
  go_quiet (fail)
  obtain ⟨W, hW⟩ : ∃ W, (w.alloc (.cells #[.int .i64 (x.sec : Nat), .string x.bytes] 94)).drewN nq = W := ⟨_, rfl⟩
  have hkW : Kept w W := by rw [← hW]; exact hk1.drewN nq
  have hnW : W.heap[w.heap.size]? = some (.cells #[.int .i64 (x.sec : Nat), .string x.bytes] 94) := by rw [← hW, World.heap_drewN]; exact hnew
  rw [hW]
  clear hW hnew c0 k1 hk1
  have k2 := hkW.disk k0
  have d2 := k2.secs.cells x.sec hx
  have f2 := k2.secs.frozen (x.sec * 3 + 2)
  have f20 := k2.secs.frozen (x.sec * 3)
  have f21 := k2.secs.frozen (x.sec * 3 + 1)
  obtain ⟨d20, d21, d22⟩ := d2
  obtain ⟨k3, o3⟩ := k2.setLast x.sec hx 0
  have hx3 : x.sec < (d.secs.modify x.sec fun s => { s with last := 0 }).length := by simpa using hx
  have b3 : (W.setCell ⟨g, x.sec * 3 + 2, none⟩ (.int .i64 0)).cell? ⟨w.heap.size, 1, none⟩ = some (.string x.bytes) := by
    rw [World.cell?_of_block (w := W) (Below.heap_setCell W _ _ _ (by exact Ne.symm hng)), cell_of_row W _ _ _ _ _ hnW]; rfl
  obtain ⟨d30, _, _⟩ := k3.secs.cells x.sec hx3
  have f30 := k3.secs.frozen (x.sec * 3)
  obtain ⟨k4, o4⟩ := k3.setKept x.sec hx3 x.bytes
  have hx4 : x.sec < ((d.secs.modify x.sec fun s => { s with last := 0 }).modify x.sec fun s => { s with kept := x.bytes }).length := by simpa using hx
  obtain ⟨_, d41, _⟩ := k4.secs.cells x.sec hx4
  have f41 := k4.secs.frozen (x.sec * 3 + 1)
  have ho0 := (hkW.on hB).trans o3
  have hfin : ∀ t, DAt B (((W.setCell ⟨g, x.sec * 3 + 2, none⟩ (.int .i64 0)).setCell ⟨g, x.sec * 3, none⟩ (.string x.bytes)).setCell ⟨g, x.sec * 3 + 1, none⟩ (.bool t)) b g vw vc { d with secs := d.secs.modify x.sec (fun _ => ⟨x.bytes, t, 0⟩) } ∧ On B w (((W.setCell ⟨g, x.sec * 3 + 2, none⟩ (.int .i64 0)).setCell ⟨g, x.sec * 3, none⟩ (.string x.bytes)).setCell ⟨g, x.sec * 3 + 1, none⟩ (.bool t)) := by
    intro t
    obtain ⟨k5, o5⟩ := k4.setTorn x.sec hx4 t
    refine ⟨?_, (ho0.trans o4).trans o5⟩
    have e : (((d.secs.modify x.sec fun s => { s with last := 0 }).modify x.sec fun s => { s with kept := x.bytes }).modify x.sec fun s => { s with torn := t }) = d.secs.modify x.sec (fun _ => ⟨x.bytes, t, 0⟩) := by
      rw [List.modify_modify_eq, List.modify_modify_eq]; rfl
    have k6 := k5
    simp only [e] at k6
    exact k6
  clear k2 k4 o3 o4 hkW hnW k0
  obtain rfl | rfl | rfl : f = 0 ∨ f = 1 ∨ f = 2 := by omega
  · go_wp2
    first | go_end0 | refine bodyPost_ret (results_none rfl _ _ _) rfl ?_
    exact ⟨rfl, k3, ho0⟩
  · go_wp2
    first | go_end0 | refine bodyPost_ret (results_none rfl _ _ _) rfl ?_
    exact ⟨rfl, (hfin false).1, (hfin false).2⟩
  · go_wp2
    first | go_end0 | refine bodyPost_ret (results_none rfl _ _ _) rfl ?_
    exact ⟨rfl, (hfin true).1, (hfin true).2⟩

/-- Cells of what waits turn: all else of a disk stays. -/
theorem DAt.keepRow {B : Nat} {w w' : World} {b g : Nat} {vw vc : Value} {d : Dk} (h : DAt B w b g vw vc d) {k : Nat} (hk : B ≤ k ∧ ∃ cs t fr, w.heap[k]? = some (.cells cs t fr) ∧ t = 94) (hg : w.grownBy w' (some k)) (hB : B ≤ w.heap.size) :
    On B w w' ∧ w'.heap[b]? = w.heap[b]? ∧ SecsAt w' g d.secs ∧ CutsAt 0 w' vc d.cuts := by
  obtain ⟨hk1, cs, t, fr, hcs, rfl⟩ := hk
  have ho : On B w w' := (On.refl B w).grown hB hg (fun k' e => by injection e with e; subst e; exact ⟨hk1, cs, _, fr, hcs, not94⟩)
  obtain ⟨cur, hgc, hsc⟩ := h.secs.out
  have e1 : w'.heap[b]? = w.heap[b]? := hg.block b (Array.getElem?_eq_some_iff.1 h.blk).1 (fun e => by
    injection e with e; subst e; rw [h.blk] at hcs; injection hcs with hcs; injection hcs with _ e2 _; exact absurd e2 (by decide))
  have e2 : w'.heap[g]? = w.heap[g]? := hg.block g (Array.getElem?_eq_some_iff.1 hgc).1 (fun e => by
    injection e with e; subst e; rw [hgc] at hcs; injection hcs with hcs; injection hcs with _ e2 _; exact absurd e2 (by decide))
  exact ⟨ho, e1, h.secs.block e2, h.cuts.on (ho.mono (Nat.zero_le _))⟩

theorem DAt.setWait {B : Nat} {w : World} {b g h cap : Nat} {vc : Value} {d : Dk} (k : DAt B w b g (.slice (some ⟨h, 0, none⟩) d.waits.length cap) vc d) (hB : B ≤ w.heap.size) (q : Nat) (x : Wr) :
    DAt B ((w.setCell ⟨h, q * 2, none⟩ (.int .i64 (x.sec : Nat))).setCell ⟨h, q * 2 + 1, none⟩ (.string x.bytes)) b g (.slice (some ⟨h, 0, none⟩) d.waits.length cap) vc { d with waits := d.waits.set q x } ∧
    On B w ((w.setCell ⟨h, q * 2, none⟩ (.int .i64 (x.sec : Nat))).setCell ⟨h, q * 2 + 1, none⟩ (.string x.bytes)) := by
  have hk : ∀ {w : World} {xs : List Value}, w.ownsRow B 94 2 (.slice (some ⟨h, 0, none⟩) d.waits.length cap) d.waits.length xs → B ≤ h ∧ ∃ cs t fr, w.heap[h]? = some (.cells cs t fr) ∧ t = 94 := by
    intro w xs ho
    rcases ho.2 with ⟨e, _⟩ | ⟨g', cap', cur, e, hb, hg, _⟩
    · cases e
    · injection e with e _ _
      injection e with e
      injection e with e
      subst e
      exact ⟨hb, _, _, _, hg, rfl⟩
  obtain ⟨r1, g1⟩ := k.waits.stored (q * 2) (.int .i64 (x.sec : Nat))
  obtain ⟨r2, g2⟩ := r1.stored (q * 2 + 1) (.string x.bytes)
  obtain ⟨o1, b1, s1, c1⟩ := k.keepRow (hk k.waits) g1 hB
  have hB1 : B ≤ (w.setCell ⟨h, q * 2, none⟩ (.int .i64 (x.sec : Nat))).heap.size := Nat.le_trans hB o1.size
  have hg12 := hk r1
  obtain ⟨hb, cs, t, fr, hcs, rfl⟩ := hg12
  have o2 : On B (w.setCell ⟨h, q * 2, none⟩ (.int .i64 (x.sec : Nat))) _ := (On.refl B _).grown hB1 g2 (fun k' e => by injection e with e; subst e; exact ⟨hb, cs, _, fr, hcs, not94⟩)
  obtain ⟨cur, hgc, _⟩ := s1.out
  have e1 := g2.block b (Array.getElem?_eq_some_iff.1 (b1.trans k.blk)).1 (fun e => by
    injection e with e; subst e; rw [b1, k.blk] at hcs; injection hcs with hcs; injection hcs with _ e2 _; exact absurd e2 (by decide))
  have e2 := g2.block g (Array.getElem?_eq_some_iff.1 hgc).1 (fun e => by
    injection e with e; subst e; rw [hgc] at hcs; injection hcs with hcs; injection hcs with _ e2 _; exact absurd e2 (by decide))
  refine ⟨⟨(e1.trans b1).trans k.blk, s1.block e2, ?_, c1.on (o2.mono (Nat.zero_le _)), k.leb, k.leg⟩, o1.trans o2⟩
  rw [wrCells_set] at r2
  simpa using r2

set_option maxHeartbeats 2000000 in
set_option maxRecDepth 100000 in
theorem wait_same {B : Nat} {w : World} {b g : Nat} {d : Dk} (h : DiskAt B w b g d) (hB : B ≤ w.heap.size) (x : Wr) (hx : x.sec < d.secs.length) (q : Nat) (hl : d.secs[x.sec].last = q + 1) (hq : q < d.waits.length) (hw : d.waits.length ≤ 100000) (hf : d.fated ≤ q) :
    Calls Tryd.prog 38 #[.pointer (some ⟨b, 0, none⟩), x.val] w fun e w' => e = .returned (.tuple #[]) ∧ DiskAt B w' b g { d with waits := d.waits.set q x } ∧ On B w w' := by
  obtain ⟨vw, vc, k0⟩ := h.out
  obtain ⟨h0, cap, rfl, hh1, hh2⟩ := k0.waits.form (by omega)
  have hk1 := (Kept.refl w).alloc (.cells #[.int .i64 (x.sec : Nat), .string x.bytes] 94)
  have k1 := hk1.disk k0
  obtain ⟨c0, _⟩ := k1.cell
  have hnew : (w.alloc (.cells #[.int .i64 (x.sec : Nat), .string x.bytes] 94)).heap[w.heap.size]? = some (.cells #[.int .i64 (x.sec : Nat), .string x.bytes] 94) := heap_alloc_new w _
  unfold Wr.val
  have i1 : (0 : Int) ≤ (x.sec : Int) := by omega
  have i2 : (x.sec : Int) < (d.secs.length : Int) := by omega
  go_enter Tryd.func38, Tryd.ntmps38
  go_wp2
  go_quiet (fail)
  obtain ⟨W, hW⟩ : ∃ W, (w.alloc (.cells #[.int .i64 (x.sec : Nat), .string x.bytes] 94)).drewN nq = W := ⟨_, rfl⟩
  have hkW : Kept w W := by rw [← hW]; exact hk1.drewN nq
  have hnW : W.heap[w.heap.size]? = some (.cells #[.int .i64 (x.sec : Nat), .string x.bytes] 94) := by rw [← hW, World.heap_drewN]; exact hnew
  rw [hW]
  clear hW hnew c0 k1 hk1
  have k2 := hkW.disk k0
  obtain ⟨_, _, d22⟩ := k2.secs.cells x.sec hx
  rw [hl] at d22
  have d22' : W.cell? ⟨g, x.sec * 3 + 2, none⟩ = some (.int .i64 ((q : Int) + 1)) := d22
  have hfat := fated_walk ⟨_, _, k2⟩
  have hd : decide ((d.fated : Int) ≤ (q : Int)) = true := by simpa using hf
  obtain ⟨_, e1, _⟩ := k2.cell
  have q1 : (0 : Int) ≤ (q : Int) := by omega
  have q2 : (q : Int) < (d.waits.length : Int) := by omega
  have n0 : W.cell? ⟨w.heap.size, 0, none⟩ = some (.int .i64 (x.sec : Nat)) := by rw [cell_of_row W _ _ _ _ _ hnW]; rfl
  have n1 : W.cell? ⟨w.heap.size, 1, none⟩ = some (.string x.bytes) := by rw [cell_of_row W _ _ _ _ _ hnW]; rfl
  have r0 := k2.waits.cellAt (q * 2) (by omega)
  have r1 := k2.waits.cellAt (q * 2 + 1) (by omega)
  rw [(wrCells_get d.waits q hq).1] at r0
  rw [(wrCells_get d.waits q hq).2] at r1
  have f0 := k2.waits.frozenAt (q * 2)
  have f1 := k2.waits.frozenAt (q * 2 + 1)
  have hkD : Kept w W.drew := hkW.drew
  obtain ⟨k3, o3⟩ := (hkD.disk k0).setWait (Nat.le_trans hB hkD.size) q x
  have hoD : On B w _ := (hkD.on hB).trans o3
  clear d22 k2 k0 o3 hkW h
  go_wp2_with (go_at_call 58; refine hfat.mono ?_; rintro e w' ⟨rfl, hw'⟩; rw [hw']; clear hw')
  go_region
  go_wp2
  first | go_end0 | refine bodyPost_ret (results_none rfl _ _ _) rfl ?_
  exact ⟨rfl, ⟨_, _, k3⟩, hoD⟩

theorem DAt.addWait {B : Nat} {w w3 : World} {b g : Nat} {vw vc v' : Value} {d : Dk} (k : DAt B w b g vw vc d) (hB : B ≤ w.heap.size) (x : Wr) (hg : w.grownBy w3 vw.ownBlock)
    (ho : w3.ownsRow B 94 2 v' (d.waits.length + 1) (wrCells d.waits ++ [.int .i64 (x.sec : Nat), .string x.bytes])) :
    DAt B (w3.setCell ⟨b, 1, none⟩ v') b g v' vc { d with waits := d.waits ++ [x] } ∧ On B w (w3.setCell ⟨b, 1, none⟩ v') ∧ w3.cell? ⟨b, 1, none⟩ = some vw ∧ w3.frozen? ⟨b, 1, none⟩ = false := by
  have hrow : ∀ r, vw.ownBlock = some r → B ≤ r ∧ ∃ cs t fr, w.heap[r]? = some (.cells cs t fr) ∧ t = 94 := by
    intro r hr
    rcases k.waits.2 with ⟨e, _⟩ | ⟨g', cap', cur, e, hb, hgg, _⟩
    · rw [e] at hr; cases hr
    · rw [e] at hr
      injection hr with hr
      subst hr
      exact ⟨hb, _, _, _, hgg, rfl⟩
  have o1 : On B w w3 := (On.refl B w).grown hB hg (fun r hr => by obtain ⟨h1, cs, t, fr, h2, rfl⟩ := hrow r hr; exact ⟨h1, cs, _, fr, h2, not94⟩)
  obtain ⟨cur, hgc, _⟩ := k.secs.out
  have e1 : w3.heap[b]? = w.heap[b]? := hg.block b (Array.getElem?_eq_some_iff.1 k.blk).1 (fun e => by
    obtain ⟨_, cs, t, fr, hcs, rfl⟩ := hrow b e.symm
    rw [k.blk] at hcs; injection hcs with hcs; injection hcs with _ e2 _; exact absurd e2 (by decide))
  have e2 : w3.heap[g]? = w.heap[g]? := hg.block g (Array.getElem?_eq_some_iff.1 hgc).1 (fun e => by
    obtain ⟨_, cs, t, fr, hcs, rfl⟩ := hrow g e.symm
    rw [hgc] at hcs; injection hcs with hcs; injection hcs with _ e2 _; exact absurd e2 (by decide))
  have hb3 := e1.trans k.blk
  have o2 : On B w3 (w3.setCell ⟨b, 1, none⟩ v') := (On.refl B w3).setCell k.leb hb3 not54 1 v'
  refine ⟨⟨?_, ?_, ?_, ?_, k.leb, k.leg⟩, o1.trans o2, ?_, frozen_of_row w3 b _ _ _ hb3⟩
  · rw [heap_setCell_same w3 b 1 _ _ _ hb3]; rfl
  · exact (k.secs.block e2).block (Below.heap_setCell w3 ⟨b, 1, none⟩ v' g k.ne)
  · have := own_set (i := 1) ho hb3 (by decide) v'
    rw [← wrCells_snoc] at this
    simpa using this
  · exact (k.cuts.on (o1.mono (Nat.zero_le _))).on (o2.mono (Nat.zero_le _))
  · rw [cell_of_row w3 b _ _ _ _ hb3]; rfl

theorem info94 : (Tryd.prog.info? 94).map (fun i => (i.zero, i.size, i.bytes)) = some (some (.agg #[.int .i64 0, .string ⟨#[]⟩]), 2, 24) := by kernel_rfl

theorem two_cells (w : World) (x y : Value) (t : TypeId) : ∀ (j : Nat) (u : Value), [x, y][j]? = some u → (w.alloc (.cells #[x, y] t)).cell? ((⟨w.heap.size, 0, none⟩ : Addr).add j) = some u := by
  intro j u hj
  rw [Addr.add_lit, Nat.zero_add, cell_of_row _ _ _ _ _ _ (heap_alloc_new w _)]
  simpa using hj

theorem own_form {w : World} {base e size : Nat} {v : Value} {n : Nat} {xs : List Value} (h : w.ownsRow base e size v n xs) : ∃ p cap, v = .slice p n cap := by
  rcases h.2 with ⟨rfl, rfl⟩ | ⟨g, cap, cur, rfl, _⟩
  · exact ⟨_, _, rfl⟩
  · exact ⟨_, _, rfl⟩

set_option maxHeartbeats 2000000 in
set_option maxRecDepth 100000 in
theorem wait_more {B : Nat} {w : World} {b g : Nat} {d : Dk} (h : DiskAt B w b g d) (hB : B ≤ w.heap.size) (x : Wr) (hx : x.sec < d.secs.length) (hw : d.waits.length ≤ 100000) (hl : d.secs[x.sec].last ≤ 100000) (hf : d.secs[x.sec].last ≤ d.fated) :
    Calls Tryd.prog 38 #[.pointer (some ⟨b, 0, none⟩), x.val] w fun e w' => e = .returned (.tuple #[]) ∧
      DiskAt B w' b g { d with waits := d.waits ++ [x], secs := d.secs.modify x.sec fun s => { s with last := d.waits.length + 1 } } ∧ On B w w' := by
  obtain ⟨i0, hi, hz0, hz1, hz2⟩ := info_parts info94
  obtain ⟨vw, vc, k0⟩ := h.out
  obtain ⟨p, cap, rfl⟩ := own_form k0.waits
  have hk1 := (Kept.refl w).alloc (.cells #[.int .i64 (x.sec : Nat), .string x.bytes] 94)
  have k1 := hk1.disk k0
  have c0 := k1.cell.1
  have hnew : (w.alloc (.cells #[.int .i64 (x.sec : Nat), .string x.bytes] 94)).heap[w.heap.size]? = some (.cells #[.int .i64 (x.sec : Nat), .string x.bytes] 94) := heap_alloc_new w _
  unfold Wr.val
  have i1 : (0 : Int) ≤ (x.sec : Int) := by omega
  have i2 : (x.sec : Int) < (d.secs.length : Int) := by omega
  go_enter Tryd.func38, Tryd.ntmps38
  go_wp2
  go_quiet (fail)
  obtain ⟨W, hW⟩ : ∃ W, (w.alloc (.cells #[.int .i64 (x.sec : Nat), .string x.bytes] 94)).drewN nq = W := ⟨_, rfl⟩
  have hkW : Kept w W := by rw [← hW]; exact hk1.drewN nq
  have hnW : W.heap[w.heap.size]? = some (.cells #[.int .i64 (x.sec : Nat), .string x.bytes] 94) := by rw [← hW, World.heap_drewN]; exact hnew
  rw [hW]
  clear hW hnew c0 k1 hk1
  have k2 := hkW.disk k0
  have d22 := (k2.secs.cells x.sec hx).2.2
  obtain ⟨L, hL⟩ : ∃ L, d.secs[x.sec].last = L := ⟨_, rfl⟩
  rw [hL] at d22 hf hl
  have hfat := fated_walk ⟨_, _, k2⟩
  have hd : decide ((d.fated : Int) ≤ (L : Int) - 1) = false := by simp; omega
  have e1 := k2.cell.2.1
  have n0 : W.cell? ⟨w.heap.size, 0, none⟩ = some (.int .i64 (x.sec : Nat)) := by rw [cell_of_row W _ _ _ _ _ hnW]; rfl
  have n1 : W.cell? ⟨w.heap.size, 1, none⟩ = some (.string x.bytes) := by rw [cell_of_row W _ _ _ _ _ hnW]; rfl
  have hkA : Kept w (W.alloc (.cells #[.int .i64 (x.sec : Nat), .string x.bytes] 94)) := hkW.alloc _
  have hkE : Kept w (W.alloc (.cells #[.int .i64 (x.sec : Nat), .string x.bytes] 94)).drew := hkA.drew
  have eA := (hkA.disk k0).cell.2.1
  have nA0 : (W.alloc (.cells #[.int .i64 (x.sec : Nat), .string x.bytes] 94)).cell? ⟨w.heap.size, 0, none⟩ = some (.int .i64 (x.sec : Nat)) := Lib.cell?_alloc_some _ n0
  have nA1 : (W.alloc (.cells #[.int .i64 (x.sec : Nat), .string x.bytes] 94)).cell? ⟨w.heap.size, 1, none⟩ = some (.string x.bytes) := Lib.cell?_alloc_some _ n1
  have k3 := hkE.disk k0
  have hlw : w.heap.size < (W.alloc (.cells #[.int .i64 (x.sec : Nat), .string x.bytes] 94)).drew.heap.size := Nat.lt_of_lt_of_le (Array.getElem?_eq_some_iff.1 hnW).1 (by simp)
  have hpw : ∀ k, (Value.slice p d.waits.length cap).ownBlock = some k → k ≠ w.heap.size := fun k e => by have := (k0.waits.lt k e).2; omega
  have hBE := Nat.le_trans hB hkE.size
  have hbytes : (d.waits.length + 1) * 24 ≤ 140737488355328 := by omega
  have h63 : d.waits.length + 1 ≤ maxLen := by unfold maxLen; omega
  have h1one : ∀ u ∈ [Value.int .i64 (x.sec : Nat), Value.string x.bytes], u.oneCell' = true := by intro u hu; simp at hu; rcases hu with rfl | rfl <;> rfl
  have hnews := two_cells W (.int .i64 (x.sec : Nat)) (.string x.bytes) 94
  have HX : Hid (On B w (W.alloc (.cells #[.int .i64 (x.sec : Nat), .string x.bytes] 94)).drew) := hkE.on hB
  have K3 : Hid (DAt B (W.alloc (.cells #[.int .i64 (x.sec : Nat), .string x.bytes] 94)).drew b g (.slice p d.waits.length cap) vc d) := k3
  clear hkA k2 k0 hkW h k3 hkE
  go_wp2_with (go_at_call 58; refine hfat.mono ?_; rintro e w' ⟨rfl, hw'⟩; rw [hw']; clear hw')
  go_region_law (refine step_append_lies _ (by rfl) _ _ _ (by rfl) B 94 i0 _ 2 24 Tryd.underlying52 hi hz0 hz1 hz2 (by rfl) (by decide) (.slice p d.waits.length cap) d.waits.length (wrCells d.waits) (by rfl) K3.out.waits ⟨W.heap.size, 0, none⟩ 1 1 [.int .i64 (x.sec : Nat), .string x.bytes] (by rfl) (by rfl) hnews h1one (by omega) h63 hbytes hBE _ rfl ?_; intro gw cap3 w3 ho3 hg3 _ _; obtain ⟨k4, o4, c4, f4⟩ := K3.out.addWait hBE x hg3 ho3)
  all_goals
    have g4 := (k4.secs.cells x.sec hx).2.2
    rw [hL] at g4
    have gf4 := k4.secs.frozen (x.sec * 3 + 2)
    have e4 := k4.cell.2.1
    obtain ⟨k5, o5⟩ := k4.setLast x.sec hx (d.waits.length + 1)
    have hfin := (HX.out.trans o4).trans o5
    have gf3 : w3.frozen? ⟨g, x.sec * 3 + 2, none⟩ = false := by
      have := k4.secs.frozen (x.sec * 3 + 2)
      rwa [World.frozen?_of_block (w := w3) (Below.heap_setCell w3 _ _ _ (by exact k4.ne))] at this
    have g3 : w3.cell? ⟨g, x.sec * 3 + 2, none⟩ = some (.int .i64 (L : Nat)) := by
      have := g4
      rwa [World.cell?_of_block (w := w3) (Below.heap_setCell w3 _ _ _ (by exact k4.ne))] at this
    clear k4 o4 o5 hi hz0 hz1 hz2 hg3 ho3
    go_wp2
    first | go_end0 | refine bodyPost_ret (results_none rfl _ _ _) rfl ?_
    exact ⟨rfl, ⟨_, _, k5⟩, hfin⟩

/-- The fate of what waits at a place. -/
def fateOf (c : Ct) (i : Nat) : Nat := if i < c.fates.length then ((c.fates.getD i 0) % 3).toNat else 0
theorem fateOf_le (c : Ct) (i : Nat) : fateOf c i ≤ 2 := by unfold fateOf; split <;> omega

theorem rem3 (x : Int) : (x.tmod 3 + 3).tmod 3 = x % 3 := by
  have h : x.tmod 3 = x - 3 * x.tdiv 3 := by have := Int.tmod_add_mul_tdiv x 3; omega
  rcases Int.le_total 0 x with hx | hx
  · have h1 := Int.tmod_nonneg (b := 3) (a := x) hx
    rw [Int.tmod_eq_emod_of_nonneg (by omega), Int.add_emod_right, Int.tmod_eq_emod_of_nonneg hx]
    omega
  · have h1 : -3 < x.tmod 3 := by have := Int.lt_tmod_of_pos x (b := 3) (by decide); omega
    rw [Int.tmod_eq_emod_of_nonneg (by omega), Int.add_emod_right, h]
    omega

theorem fateOf_walk {B : Nat} {w : World} {vf : Value} (c : Ct) (h : FatesAt B w vf c.fates) (i : Nat) (hi : i ≤ 100000) :
    Calls Tryd.prog 72 #[.agg #[.int .i64 c.at_, vf], .int .i64 (i : Nat)] w fun e w' => e = .returned (.int .i64 (fateOf c i : Nat)) ∧ Kept w w' := by
  obtain ⟨p, cc, rfl, hc⟩ := h.out
  by_cases hl : i < c.fates.length
  · obtain ⟨b, off, rfl, hs, hx⟩ := hc i hl
    have hd : decide (((c.fates.length : Nat) : Int) ≤ (i : Int)) = false := by simp; omega
    have i1 : (0 : Int) ≤ (i : Int) := by omega
    have i2 : (i : Int) < (c.fates.length : Int) := by omega
    obtain ⟨X, hX⟩ : ∃ X, c.fates.getD i 0 = X := ⟨_, rfl⟩
    have ef : ((fateOf c i : Nat) : Int) = (X.tmod 3 + 3).tmod 3 := by
      rw [rem3]; unfold fateOf; rw [if_pos hl, hX]; omega
    rw [hX] at hx
    have hxA : (w.alloc (.cells #[.int .i64 c.at_, .slice (some ⟨b, off, none⟩) c.fates.length cc] 90)).cell? ⟨b, off + i, none⟩ = some (.int .i64 X) := Lib.cell?_alloc_some _ hx
    have w1 : -3 < X.tmod 3 ∧ X.tmod 3 < 3 := ⟨by have := Int.lt_tmod_of_pos X (b := 3) (by decide); omega, Int.tmod_lt_of_pos X (by decide)⟩
    rw [ef]
    clear ef hX hc h hs
    go_enter Tryd.func72, Tryd.ntmps72
    go_wp2
    go_ret
    refine ⟨?_, (Kept.refl w).alloc _⟩
    show Ending.returned (Value.int .i64 ((X.tmod 3 + 3) % 3)) = _
    rw [Int.tmod_eq_emod_of_nonneg (a := X.tmod 3 + 3) (by omega)]
  · have hd : decide (((c.fates.length : Nat) : Int) ≤ (i : Int)) = true := by simp; omega
    have ef : fateOf c i = 0 := by unfold fateOf; rw [if_neg hl]
    rw [ef]
    go_enter Tryd.func72, Tryd.ntmps72
    go_wp2
    go_ret
    exact ⟨rfl, (Kept.refl w).alloc _⟩

set_option maxHeartbeats 2000000 in
theorem act_ok {B : Nat} {w : World} {b g : Nat} {d : Dk} (h : DiskAt B w b g d) (ha : d.acts ≤ 100000) (hs : d.since ≤ 100000) (hc : ∀ c r, d.cuts = c :: r → (d.since : Int) < c.at_) :
    Calls Tryd.prog 39 #[.pointer (some ⟨b, 0, none⟩)] w fun e w' => e = .returned (.int .i64 0) ∧ DiskAt B w' b g { d with acts := d.acts + 1, since := d.since + 1 } ∧ On B w w' := by
  obtain ⟨vw, vc, k0⟩ := h.out
  obtain ⟨pc, cc, rfl, hcc, hcm, hcu⟩ := k0.cuts.out
  obtain ⟨c0, c1, c2, c3, c4, c5, c6⟩ := k0.cell
  have f3 := k0.frozen 3
  have f4 := k0.frozen 4
  have k1 : DAt B (w.setCell ⟨b, 3, none⟩ (.int .i64 ((d.acts : Int) + 1))) b g vw (.slice pc d.cuts.length cc) { d with acts := d.acts + 1 } := k0.setActs (d.acts + 1)
  have o1 := (k0.turn 3 (.int .i64 ((d.acts : Int) + 1))).2.2.2
  have k2 : DAt B ((w.setCell ⟨b, 3, none⟩ (.int .i64 ((d.acts : Int) + 1))).setCell ⟨b, 4, none⟩ (.int .i64 ((d.since : Int) + 1))) b g vw (.slice pc d.cuts.length cc) { d with acts := d.acts + 1, since := d.since + 1 } := k1.setSince (d.since + 1)
  have o2 := (k1.turn 4 (.int .i64 ((d.since : Int) + 1))).2.2.2
  have ho := o1.trans o2
  obtain hd | ⟨x, r, hd⟩ : d.cuts = [] ∨ ∃ x r, d.cuts = x :: r := by cases d.cuts <;> simp
  · rw [hd] at c2
    go_enter Tryd.func39, Tryd.ntmps39
    go_wp2
    go_ret
    exact ⟨rfl, ⟨_, _, k2⟩, ho⟩
  · obtain ⟨bc, off, vf, rfl, hsb, hx, hy, hf⟩ := hcu 0 (by rw [hd]; simp)
    rw [Nat.zero_mul, Nat.add_zero] at hx
    have hx' : w.cell? ⟨bc, off, none⟩ = some (.int .i64 x.at_) := by rw [hx]; simp [hd]
    have hlt := hc x r hd
    have hdd : decide ((d.since : Int) < x.at_) = true := by simpa using hlt
    have hlen : d.cuts.length = r.length + 1 := by rw [hd]; rfl
    rw [hlen] at c2
    have hz0 := (ho.mono (Nat.zero_le _)).sbCell hsb off
    rw [hx'] at hz0
    go_enter Tryd.func39, Tryd.ntmps39
    go_wp2
    go_ret
    exact ⟨rfl, ⟨_, _, k2⟩, ho⟩

end Go.Proofs.YtlndfjeijbjdeaaDoor.D