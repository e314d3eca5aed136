/- The walk of (*fault.Fault).Error: of a chain of faults the document's text; of a nil fault nothing. Conditions: errors.errorType and the library's table of powers of ten hold what the program's text lays; the numbers lie in 0 to 1000000, the places are of 1000 bytes at most, the chain of 65536 faults at most. -/
import Derived.Test.YtbdlobmciemadaaDoorWalkC
namespace Go.Proofs.YtbdlobmciemadaaDoor
open Go.RowKit

/-- While the text is written: w is the world at the call, w1 that behind the list's making, acc what is written, in m bytes at most. -/
structure St (w w1 : World) (acc : List UInt8) (m : Nat) (W : World) : Prop where
  b : Lib.IsBuilderF 59 5 w.heap.size w.heap.size (Lib.byteCells acc) W
  below : Below w.heap.size w W
  oth : Lib.OthersKept 5 (some w.heap.size) w1 W
  len : acc.length ≤ m

/-- A fault of the world at the call. -/
structure In (w : World) (y : Nd) : Prop where
  ex : ∃ u, w.heap[y.b]? = some (.cells #[.string y.s, .int .i64 y.c, u] 50)

theorem In.str {w W : World} {y : Nd} (h : In w y) (k : Below w.heap.size w W) : W.cell? ⟨y.b, 0, none⟩ = some (.string y.s) ∧ W.cell? ⟨y.b, 1, none⟩ = some (.int .i64 y.c) := by
  obtain ⟨u, h⟩ := h.ex
  have hb : W.heap[y.b]? = some (.cells #[.string y.s, .int .i64 y.c, u] 50) := (k.block _ (Array.getElem?_eq_some_iff.1 h).1).trans h
  exact ⟨by rw [cell_of_row W y.b 0 _ _ _ hb]; rfl, by rw [cell_of_row W y.b 1 _ _ _ hb]; rfl⟩

theorem ws_in {w w1 W : World} {acc : List UInt8} {m : Nat} (s : ByteArray) (y : Nd) (h : St w w1 acc m W) (hy : In w y) (hm : m + s.size ≤ 140737488355328) :
    Calls Tryd.prog 25 #[.pointer (some ⟨w.heap.size, 0, none⟩), .string s] W fun e w' => e = .returned (.tuple #[.int .i64 s.size, .nilIface]) ∧ St w w1 (acc ++ s.data.toList) (m + s.size) w' ∧
      w'.cell? ⟨y.b, 0, none⟩ = some (.string y.s) ∧ w'.cell? ⟨y.b, 1, none⟩ = some (.int .i64 y.c) := by
  have hl := h.len
  refine (Tryd.Builder_WriteString_k _ _ _ s W h.b (by rw [Lib.byteCells_length]; omega) h.below.size).mono ?_
  rintro e w' ⟨rfl, h1, h2, h3⟩
  have hk := h.below.trans h2
  refine ⟨rfl, ⟨?_, hk, h.oth.trans h3, ?_⟩, hy.str hk⟩
  · rw [Lib.byteCells_append]; exact Or.inr h1
  · rw [List.length_append, Array.length_toList]
    exact Nat.add_le_add_right hl _

theorem wb_in {w w1 W : World} {acc : List UInt8} {m : Nat} (y : Nd) (h : St w w1 acc m W) (hy : In w y) (hm : m + 1 ≤ 140737488355328) :
    Calls Tryd.prog 26 #[.pointer (some ⟨w.heap.size, 0, none⟩), .int .u8 32] W fun e w' => e = .returned .nilIface ∧ St w w1 (acc ++ [32]) (m + 1) w' ∧
      w'.cell? ⟨y.b, 0, none⟩ = some (.string y.s) ∧ w'.cell? ⟨y.b, 1, none⟩ = some (.int .i64 y.c) := by
  have hl := h.len
  refine (Tryd.Builder_WriteByte_k _ _ _ 32 W h.b (by rw [Lib.byteCells_length]; omega) h.below.size).mono ?_
  rintro e w' ⟨rfl, h1, h2, h3⟩
  have hk := h.below.trans h2
  refine ⟨rfl, ⟨?_, hk, h.oth.trans h3, ?_⟩, hy.str hk⟩
  · rw [Lib.byteCells_append]; exact Or.inr h1
  · simp; omega

theorem St.kept {w w1 W W' : World} {acc : List UInt8} {m : Nat} (h : St w w1 acc m W) (k : Kept W W') : St w w1 acc m W' := by
  have hg : W.grownBy W' none := ⟨k.out.os, k.out.tape, k.out.output, k.out.size, fun i hi _ => k.out.block i hi⟩
  have key : ∀ p, Lib.BuilderAtF 59 5 w.heap.size w.heap.size p (Lib.byteCells acc) W → Lib.BuilderAtF 59 5 w.heap.size w.heap.size p (Lib.byteCells acc) W' := by
    rintro p ⟨h1, v, h2, h3, h4⟩
    exact ⟨h1, v, k.block h2, h3.kept hg (by cases v.ownBlock <;> simp), h4⟩
  refine ⟨h.b.elim (fun x => .inl (key _ x)) (fun x => .inr (key _ x)), h.below.trans (k.out.mono h.below.size), ?_, h.len⟩
  intro i o hi hb ho
  exact k.block (h.oth i o hi hb ho)

theorem itoa_in {w w1 W : World} {acc : List UInt8} {m : Nat} (c : Int) (h0 : 0 ≤ c) (h1 : c ≤ 1000000) (h : St w w1 acc m W) (hd : Lds w) :
    Calls Tryd.prog 19 #[.int .i64 c] W fun e w' => e = .returned (.string ⟨(Lib.itoa c).toArray⟩) ∧ St w w1 acc m w' := by
  refine (Tryd.strconv_Itoa c (by omega) (by omega) W (hd.kept ⟨h.below⟩).tab).mono ?_
  rintro e w' ⟨rfl, k, os, rfl⟩
  exact ⟨rfl, h.kept (Kept.grow _ _ _)⟩

theorem string_in {w w1 W : World} {acc : List UInt8} {m : Nat} (h : St w w1 acc m W) :
    Calls Tryd.prog 27 #[.pointer (some ⟨w.heap.size, 0, none⟩)] W fun e w' => e = .returned (.string ⟨acc.toArray⟩) ∧ Kept w w' := by
  refine (Tryd.Builder_String_any_k _ _ acc W h.b h.below.size).mono ?_
  rintro e w' ⟨rfl, _, h2, _⟩
  exact ⟨rfl, ⟨h.below.trans h2⟩⟩

/-- A fault that can be told as a text. -/
structure Fine (y : Nd) : Prop where
  c0 : 0 ≤ y.c
  c1 : y.c ≤ 1000000
  s : y.s.size ≤ 1000

theorem Ch.in {w : World} : ∀ (l : List Nd) (v : Value), Ch w l v → ∀ y ∈ l, In w y
  | [], _, _, y, hy => by cases hy
  | x :: r, _, ⟨_, u, h2, h3⟩, y, hy => by
    rcases List.mem_cons.1 hy with rfl | hy
    · exact ⟨u, h2⟩
    · exact Ch.in r u h3 y hy

/-- A list of pointers to faults, in memory. -/
structure Row (W : World) (l : List Nd) (g : Nat) : Prop where
  ex : ∃ cur : Array Value, W.heap[g]? = some (.cells cur 39) ∧ ∀ (k : Nat) (y : Nd), l[k]? = some y → cur[k]? = some (Value.pointer (some ⟨y.b, 0, none⟩))

theorem Row.cell {W : World} {l : List Nd} {g : Nat} (h : Row W l g) {k : Nat} {y : Nd} (hy : l[k]? = some y) : W.cell? ⟨g, k, none⟩ = some (.pointer (some ⟨y.b, 0, none⟩)) := by
  obtain ⟨cur, h1, h2⟩ := h.ex
  rw [cell_of_row W g k _ _ _ h1]
  exact h2 k y hy

theorem row_of {W : World} {base : Nat} {v : Value} {l : List Nd} (h : W.ownsRow base 39 1 v l.length (ptrs l)) (hl : 0 < l.length) :
    ∃ g cap, v = .slice (some ⟨g, 0, none⟩) l.length cap ∧ base ≤ g ∧ l.length ≤ cap ∧ Row W l g := by
  rcases h.2 with ⟨_, h0⟩ | ⟨g, cap, cur, rfl, hb, hg, hc, _, _, ht⟩
  · omega
  · refine ⟨g, cap, rfl, hb, hc, ⟨cur, hg, fun k y hy => ?_⟩⟩
    have h1 : (ptrs l)[k]? = some (.pointer (some ⟨y.b, 0, none⟩)) := by simp [ptrs, hy]
    rw [← ht, List.getElem?_take] at h1
    split at h1
    · simpa using h1
    · cases h1

theorem Row.oth {b : Nat} {W W' : World} {l : List Nd} {g : Nat} (h : Row W l g) (k : Lib.OthersKept 5 (some b) W W') (hb : g ≠ b) : Row W' l g := by
  obtain ⟨cur, h1, h2⟩ := h.ex
  refine ⟨cur, k g _ h1 (fun e => hb (Option.some.inj e)) (fun c fz e => ?_), h2⟩
  injection e with e1 e2
  cases e2

theorem St.start {w w1 : World} (hk : Kept (w.alloc (.cells #[.pointer none, .slice none 0 0] 59)) w1) : St w w1 [] 0 w1 := by
  refine ⟨.inl ⟨Nat.le_refl _, .slice none 0 0, hk.block (heap_alloc_new w _), World.ownsRowF_nil _ _ _ _, by simp [Value.ownBlock]⟩, ?_, Lib.OthersKept.refl _ _ _, Nat.le_refl _⟩
  exact (((Kept.refl w).alloc _).trans hk).out

theorem St.cast {w w1 W : World} {acc acc' : List UInt8} {m m' : Nat} (h : St w w1 acc m W) (e : acc = acc') (hm : m ≤ m') : St w w1 acc' m' W := by
  subst e
  exact ⟨h.b, h.below, h.oth, Nat.le_trans h.len hm⟩

theorem take_next {l : List Nd} {k : Nat} {y : Nd} (h : l[k]? = some y) : l.take (k + 1) = l.take k ++ [y] := by
  rw [List.take_add_one, h]; rfl

set_option maxRecDepth 100000 in
set_option maxHeartbeats 1000000 in
theorem error_walk (x : Nd) (r : List Nd) (v0 : Value) (w : World) (hch : Ch w (x :: r) v0) (hd : Lds w) (hf : ∀ y ∈ x :: r, Fine y) (hn : (x :: r).length ≤ 65536) :
    Calls Tryd.prog 16 #[.pointer (some ⟨x.b, 0, none⟩)] w fun e w' => e = .returned (.string ⟨(txt (x :: r)).toArray⟩) ∧ Kept w w' := by
  have hin := Ch.in _ _ hch
  have hv0 : v0 = .iface 39 (.pointer (some ⟨x.b, 0, none⟩)) := hch.1
  have hka : Kept w (w.alloc (.cells #[.pointer none, .slice none 0 0] 59)) := (Kept.refl w).alloc _
  have hth := through_walk (x :: r) v0 65536 65536 (by omega) (by omega) (w.alloc (.cells #[.pointer none, .slice none 0 0] 59)) (Ch.kept hka _ _ hch) (hka.cell hd.et)
  rw [hv0, List.take_of_length_le hn] at hth
  have HD : Hid (Lds w) := hd
  have HF : Hid (∀ y ∈ x :: r, Fine y) := hf
  have HI : Hid (∀ y ∈ x :: r, In w y) := hin
  clear hd hf hin hch hv0
  generalize hl : x :: r = l at *
  have HL : Hid (x :: r = l) := hl
  clear hl
  go_enter Tryd.func16, Tryd.ntmps16
  have hpos : 0 < l.length := by rw [← HL.out]; simp
  go_wp2_with (go_at_call 20; refine hth.mono ?_; rintro e w1 ⟨v, rfl, hown, hk⟩; obtain ⟨g, cap, rfl, hg, hcap, hrow⟩ := row_of hown hpos; clear hown hth)
  have hg1 : g ≠ w.heap.size := by simp at hg; omega
  have HS : Hid (St w w1 [] 0 w1) := St.start hk
  clear hk hg
  go_loopg [10] l.length (fun n c wx => ∃ k : Nat, k + n = l.length ∧ c = .int .i64 k ∧ St w w1 (txt (l.take k)) (2000000 * k) wx)
  case atStart => exact ⟨0, by omega, rfl, HS.out⟩
  case round =>
    obtain ⟨k, hkn, rfl, hst⟩ := hrel
    clear HS
    by_cases hlt : k < l.length
    · obtain ⟨y, hy⟩ : ∃ y, l[k]? = some y := ⟨l[k], List.getElem?_eq_getElem hlt⟩
      have hyl : y ∈ l := List.mem_of_getElem? hy
      have hiny := HI.out y hyl
      have hfine := HF.out y hyl
      have c0 := (hrow.oth hst.oth hg1).cell hy
      have c1 := (hiny.str hst.below).1
      have f0 := hfine.c0
      have f1 := hfine.c1
      have f2 := hfine.s
      have f3 : (⟨(Lib.itoa y.c).toArray⟩ : ByteArray).size ≤ 1000001 := by
        have := itoa_le y.c f0
        show (List.toArray _).size ≤ _
        simp; omega
      have f4 : (⟨#[58, 32]⟩ : ByteArray).size ≤ 2 := Nat.le_refl 2
      have hmx : max 0 y.c = y.c := by omega
      have HY : Hid (l[k]? = some y) := hy
      clear hy
      by_cases hk0 : k = 0
      · subst hk0
        go_wp2_with (first
          | (go_at_call 25; refine (ws_in _ y (by assumption) hiny ?_).mono ?_; all_goals first | (show _ ≤ _; omega) | skip; rintro e W1 ⟨rfl, h1, k1, k2⟩)
          | (go_at_call 26; refine (wb_in y (by assumption) hiny ?_).mono ?_; all_goals first | (show _ ≤ _; omega) | skip; rintro e W2 ⟨rfl, h2, k3, k4⟩)
          | (go_at_call 19; refine (itoa_in _ f0 f1 (by assumption) HD.out).mono ?_; rintro e W3 ⟨rfl, h3⟩))
        obtain ⟨n, rfl⟩ : ∃ n, gk = n + 1 := ⟨gk - 1, by omega⟩
        go_roundg n
        case measure => omega
        case rel =>
          refine ⟨0 + 1, by omega, rfl, h1.cast ?_ (by omega)⟩
          rw [take_next HY.out]
          simp [txt_one, part]
          simp [txt, flat]
      · have hpos : 0 < (k : Int) := by omega
        go_wp2_with (first
          | (go_at_call 25; refine (ws_in _ y (by assumption) hiny ?_).mono ?_; all_goals first | (show _ ≤ _; omega) | skip; rintro e W1 ⟨rfl, h1, k1, k2⟩)
          | (go_at_call 26; refine (wb_in y (by assumption) hiny ?_).mono ?_; all_goals first | (show _ ≤ _; omega) | skip; rintro e W2 ⟨rfl, h2, k3, k4⟩)
          | (go_at_call 19; refine (itoa_in _ f0 f1 (by assumption) HD.out).mono ?_; rintro e W3 ⟨rfl, h3⟩))
        obtain ⟨n, rfl⟩ : ∃ n, gk = n + 1 := ⟨gk - 1, by omega⟩
        go_roundg n
        case measure => omega
        case rel =>
          refine ⟨k + 1, by omega, by go_num, h1.cast ?_ (by omega)⟩
          rw [take_next HY.out]
          obtain ⟨z, zs, hz⟩ : ∃ z zs, l.take k = z :: zs := by
            cases h : l.take k with
            | nil => have := congrArg List.length h; rw [List.length_take, List.length_nil] at this; omega
            | cons z zs => exact ⟨z, zs, rfl⟩
          rw [hz, txt_snoc]
          simp [part]
    · have hkl : k = l.length := by omega
      subst hkl
      go_wp2_with (go_at_call 27; refine (string_in hst).mono ?_; rintro e W' ⟨rfl, hkw⟩)
      go_ret
      exact ⟨rfl, hkw⟩
end Go.Proofs.YtbdlobmciemadaaDoor
