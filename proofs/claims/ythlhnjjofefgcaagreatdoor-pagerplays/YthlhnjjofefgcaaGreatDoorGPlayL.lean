/- The law's two lists of pages beside one another, also in one block; what an append does to both. Conditions: no more than 100 pages. -/
import Derived.Test.YthlhnjjofefgcaaGreatDoorGPlayA
import Derived.Deep.RegionLawGrows
namespace Go.Proofs.YthlhnjjofefgcaaGreatDoor.G
open Go.ChangeShapes Go.WideShapes Go.ChangeAt Go.RowKit

/-- The law's two lists: where they are in one block, what is committed is the head of what is under way. -/
structure Ls (B : Nat) (W : World) (gn cn gk ck : Nat) (now kept : List Pge) : Prop where
  now_ : PL B W gn cn now
  kept_ : PL B W gk ck kept
  alias : gn = gk → kept.length ≤ now.length
theorem Ls.kept {B : Nat} {W W' : World} {gn cn gk ck : Nat} {now kept : List Pge} (h : Ls B W gn cn gk ck now kept) (k : D.Kept W W') : Ls B W' gn cn gk ck now kept := ⟨h.now_.kept k, h.kept_.kept k, h.alias⟩
theorem Ls.on {B B' : Nat} {W W' : World} {gn cn gk ck : Nat} {now kept : List Pge} (h : Ls B W gn cn gk ck now kept) (k : On B' W W') : Ls B W' gn cn gk ck now kept := ⟨h.now_.on k, h.kept_.on k, h.alias⟩

/-- A page is appended to what is under way. -/
theorem ls_append {B : Nat} {W : World} {gn cn gk ck : Nat} {now kept : List Pge} (h : Ls B W gn cn gk ck now kept) (hB : B ≤ W.heap.size) (hl : now.length ≤ 100) (ty : TypeId) (n : Nat) (kd : Int) (s : ByteArray) :
    ∃ g' c' w', (Builtin.append_ #[29, 29] ty #[.slice (some ⟨gn, 0, none⟩) now.length cn, .slice (some ⟨W.heap.size, 0, none⟩) 1 1]).run Tryz.prog (W.alloc (.cells #[.int .i64 (n : Nat), .int .i64 kd, .string s] 36)) = .ok (.slice (some ⟨g', 0, none⟩) (now.length + 1) c') w' ∧
      Ls B w' g' c' gk ck (now ++ [⟨n, kd, s⟩]) kept ∧ (∀ p a q, GA B W p a q → GA B w' p a q) ∧ Below B W w' := by
  obtain ⟨i0, hi, hz0, hz1, hz2⟩ := info_parts info36
  have qn := three_cells W (.int .i64 (n : Nat)) (.int .i64 kd) (.string s) W.heap.size rfl
  have K : D.Kept W (W.alloc (.cells #[.int .i64 (n : Nat), .int .i64 kd, .string s] 36)) := (D.Kept.refl W).alloc _
  have hN := h.now_.kept K
  have hK := h.kept_.kept K
  generalize W.alloc (.cells #[.int .i64 (n : Nat), .int .i64 kd, .string s] 36) = V at qn K hN hK ⊢
  obtain ⟨cur, e1, e2, e3, e4, e5, e6⟩ := hN.blk
  have efl : flat (now ++ [⟨n, kd, s⟩]) = flat now ++ [.int .i64 (n : Nat), .int .i64 kd, .string s] := flat_append _ _
  have hfl := flat_len now
  by_cases hroom : now.length + 1 ≤ cn
  · have hr := run_append_room (P := Tryz.prog) V 29 ty 36 i0 Tryz.underlying29 hi gn now.length cn cur e1 ⟨W.heap.size, 0, none⟩ 1 1 [.int .i64 (n : Nat), .int .i64 kd, .string s] (by rw [hz1]; rfl) qn (one_cells _ _ _) hroom (by rw [hz1, e5]; simp; omega)
    rw [hz1] at hr
    obtain ⟨row, hrow⟩ : ∃ row : Array Value, row = (cur.toList.take (now.length * 3) ++ [Value.int .i64 (n : Nat), .int .i64 kd, .string s] ++ cur.toList.drop (now.length * 3 + [Value.int .i64 (n : Nat), .int .i64 kd, .string s].length)).toArray := ⟨_, rfl⟩
    rw [← hrow] at hr
    have hh : (V.setRow gn row).heap[gn]? = some (.cells row 36) := setRow_heap V gn cur row 36 _ e1
    have ho : ∀ k, k ≠ gn → (V.setRow gn row).heap[k]? = V.heap[k]? := fun k hk => setRow_other V gn k row hk
    have hsz : row.size = cn * 3 := by
      rw [hrow]
      simp only [List.size_toArray, List.length_append, List.length_take, List.length_drop, Array.length_toList, e5, List.length_cons, List.length_nil]
      omega
    have htk : row.toList.take ((now.length + 1) * 3) = flat now ++ [.int .i64 (n : Nat), .int .i64 kd, .string s] := by
      rw [hrow, e6]
      have : (now.length + 1) * 3 = (flat now ++ [Value.int .i64 (n : Nat), .int .i64 kd, .string s]).length := by simp [hfl]; omega
      rw [this]
      exact List.take_left
    refine ⟨gn, cn, _, hr, ⟨.mk' hh e2 (by simpa using hroom) e4 hsz (by rw [efl, ← htk]; simp), ?_, fun e => ?_⟩, fun p a q hG => ?_, ?_⟩
    · by_cases hg : gk = gn
      · subst hg
        obtain ⟨cur', k1, k2, k3, k4, k5, k6⟩ := hK.blk
        rw [e1] at k1
        injection k1 with k1
        injection k1 with k1
        subst k1
        have hck : ck = cn := by omega
        have hle := h.alias rfl
        refine .mk' hh k2 k3 k4 (by rw [hsz, hck]) ?_
        rw [← k6]
        have e : row.toList.take (now.length * 3) = cur.toList.take (now.length * 3) := by
          have : row.toList.take (now.length * 3) = (row.toList.take ((now.length + 1) * 3)).take (now.length * 3) := by rw [List.take_take, Nat.min_eq_left (by omega)]
          rw [this, htk, e6, ← hfl]
          exact List.take_left
        have e' : row.toList.take (kept.length * 3) = (row.toList.take (now.length * 3)).take (kept.length * 3) := by rw [List.take_take, Nat.min_eq_left (by omega)]
        rw [e', e, List.take_take, Nat.min_eq_left (by omega)]
      · exact hK.same (ho gk hg)
    · rw [List.length_append]; have := h.alias e; omega
    · exact (hG.kept K).far e1 far36 ho
    · refine (K.out.mono hB).trans ⟨rfl, rfl, rfl, by simp [World.setRow], fun k hk => ho k (by omega)⟩
  · obtain ⟨v', w', hrun, r1, r2⟩ := run_append_arg_grows (P := Tryz.prog) V 29 ty 36 i0 (.agg #[.int .i64 0, .int .i64 0, .string ⟨#[]⟩]) 3 32 Tryz.underlying29 hi hz0 hz1 hz2 rfl (by decide) ⟨gn, 0, none⟩ now.length cn (flat now) hfl (hN.row.cells (g := gn) rfl) ⟨W.heap.size, 0, none⟩ 1 1 [.int .i64 (n : Nat), .int .i64 kd, .string s] rfl qn (by omega) (by unfold maxLen; omega) (by omega)
    obtain ⟨g', c', rfl, hb, hlt⟩ := r1.form (by omega)
    have KV : D.Kept V w' := ⟨(Below.refl _ V).grown r2 (Nat.le_refl _) (fun _ e => by cases e)⟩
    have hgk := hK.lt
    refine ⟨g', c', w', hrun, ⟨?_, hK.kept KV, fun e => by omega⟩, fun p a q hG => (hG.kept K).kept KV, (K.trans KV).out.mono hB⟩
    have p1 : PL V.heap.size w' g' c' (now ++ [⟨n, kd, s⟩]) := ⟨by rw [efl, List.length_append]; exact r1⟩
    exact p1.mono (Nat.le_trans hB K.size)
end Go.Proofs.YthlhnjjofefgcaaGreatDoor.G
