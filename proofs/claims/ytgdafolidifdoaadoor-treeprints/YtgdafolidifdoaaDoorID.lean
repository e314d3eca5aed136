/- A builder within a printer: what it holds, what stays beside it, and the walk of copyCheck. Conditions: those that each row names. -/
import Derived.Test.YtgdafolidifdoaaDoorIC
import Derived.Test.YtgdafolidifdoaaDoorISh
import Derived.Shelf.Strings.BuilderK
namespace Go.Proofs.YtgdafolidifdoaaDoor.Tp
open Go.ChangeShapes Go.WideShapes Go.ChangeAt Go.RowKit Go.Shelf

/-- All blocks stay but the builder's own and rows of bytes. -/
def Fr (b : Nat) (W W' : World) : Prop := Lib.OthersKept 5 (some b) W W'
theorem Fr.refl (b : Nat) (w : World) : Fr b w w := Lib.OthersKept.refl _ _ w
theorem Fr.trans {b : Nat} {x y z : World} (h : Fr b x y) (k : Fr b y z) : Fr b x z := Lib.OthersKept.trans h k
theorem Kept.fr {w w' : World} (h : Kept w w') (b : Nat) : Fr b w w' := fun _ _ hk _ _ => h.block hk
theorem Fr.row {b k : Nat} {w w' : World} {cs : Array Value} {t : TypeId} {fz : Nat × Nat} (h : Fr b w w') (hk : w.heap[k]? = some (.cells cs t fz)) (hb : k ≠ b) (ht : t ≠ 5) : w'.heap[k]? = some (.cells cs t fz) :=
  h k _ hk (fun e => hb (Option.some.inj e)) (fun c f e => by cases e; exact ht rfl)

/-- A builder that holds these bytes, in a block made behind w. -/
structure Bl (w : World) (b : Nat) (acc : ByteArray) (W : World) : Prop where
  low : Kept w W
  out : Lib.IsBuilderF 54 5 w.heap.size b (Lib.strCells acc) W
theorem at_kept {T e : TypeId} {B b : Nat} {p : Value} {bs : List Value} {W W' : World} (h : Lib.BuilderAtF T e B b p bs W) (k : Kept W W') : Lib.BuilderAtF T e B b p bs W' := by
  obtain ⟨hB, v, hb, hown, hne⟩ := h
  exact ⟨hB, v, k.block hb, hown.kept (k.grown none) (by cases v.ownBlock <;> simp), hne⟩
theorem Bl.kept {w W W' : World} {b : Nat} {acc : ByteArray} (h : Bl w b acc W) (k : Kept W W') : Bl w b acc W' :=
  ⟨h.low.trans k, h.out.imp (at_kept · k) (at_kept · k)⟩
theorem Bl.lt {w W : World} {b : Nat} {acc : ByteArray} (h : Bl w b acc W) : b < W.heap.size ∧ w.heap.size ≤ b := by
  rcases h.out with h | h
  · exact ⟨h.lt, h.1⟩
  · exact ⟨h.lt, h.1⟩
theorem Bl.start (w : World) : Bl w w.heap.size ⟨#[]⟩ (w.alloc (.cells #[.pointer none, .slice none 0 0] 54)) := by
  refine ⟨(Kept.refl w).alloc _, .inl ⟨Nat.le_refl _, .slice none 0 0, alloc_at w _, ?_, by simp [Value.ownBlock]⟩⟩
  exact World.ownsRowF_nil _ _ _ _

/-- A pointer as a bare one. -/
theorem ptr_bare {P : Program} {w : World} {src dst t e : TypeId} {j : TypeInfo} {m : Nat} (a : Addr) (h1 : P.underlying src = some (.pointer t)) (h2 : P.underlying dst = some .unsafePointer) (h3 : P.info? t = some j) (h4 : j.size ≠ 0) (h5 : w.shape? a.block = some (e, m)) (h6 : a.off < m) : (convert src dst (.pointer (some a))).run P w = .ok (.pointer (some a)) w := by
  simp only [convert, Sem.run_bind, run_underlying h1, run_underlying h2, Result.andThen_ok, Conv.unsafePointer]
  simp [Conv.seenAt, viewAt, cellsIn, h5, sizeOf, typeInfo, h3, h4]
  omega
/-- .. and back. -/
theorem ptr_back {P : Program} {w : World} {src dst u e : TypeId} {j : TypeInfo} {m : Nat} (a : Addr) (h1 : P.underlying src = some .unsafePointer) (h2 : P.underlying dst = some (.pointer u)) (h3 : P.info? u = some j) (h4 : w.shape? a.block = some (e, m)) (h5 : liesAt P P.depth e (m / P.cellsOf e) a.off u 1 = true) : (convert src dst (.pointer (some a))).run P w = .ok (.pointer (some a)) w := by
  simp only [convert, Sem.run_bind, run_underlying h1, run_underlying h2, Result.andThen_ok, Conv.unsafePointer]
  simp [Conv.seenAt, viewAt, h4, variablesAt, h5, sizeOf, typeInfo, h3]
theorem printer_lies : liesAt Tryd.prog Tryd.prog.depth 54 (2 / Tryd.prog.cellsOf 54) 0 52 1 = true := by kernel_rfl

set_option maxHeartbeats 1000000 in
set_option maxRecDepth 100000 in
theorem check_new (b : Nat) (w : World) (h0 : w.cell? ⟨b, 0, none⟩ = some (.pointer none)) (hsh : w.shape? b = some (54, 2)) (hfz : w.frozen? ⟨b, 0, none⟩ = false) :
    Calls Tryd.prog 46 #[.pointer (some ⟨b, 0, none⟩)] w fun e w' => e = .returned (.tuple #[]) ∧ w' = w.setCell ⟨b, 0, none⟩ (.pointer (some ⟨b, 0, none⟩)) := by
  obtain ⟨j, hj', hjs⟩ := Option.map_eq_some_iff.1 Tryd.Builder_Extra_156.sizeBuilder
  have hj : Tryd.prog.info? 52 = some j := hj'
  have mixed := Tryd.lays156.mixed
  go_enter Tryd.func46, Tryd.ntmps46
  go_wp2
  rw [ptr_bare (w := w) ⟨b, 0, none⟩ Tryd.underlying49 Tryd.underlying94 hj (by rw [hjs]; decide) hsh (Nat.zero_lt_succ 1)]
  simp only [Result.andThen]
  rw [Oper.upon_value]
  go_wp2
  rw [run_callFunc_extern Tryd.func53 (by kernel_rfl) (by kernel_rfl) (by kernel_rfl) (e := Extern.AbiNoEscape.same) (by kernel_rfl)]
  rw [Lib.run_noEscape]
  simp only [Result.andThen]
  rw [Oper.upon_value]
  go_wp2
  rw [ptr_back (w := w) ⟨b, 0, none⟩ Tryd.underlying94 Tryd.underlying49 hj hsh printer_lies]
  simp only [Result.andThen]
  rw [Oper.upon_value]
  go_wp2
  go_end0
  exact ⟨rfl, rfl⟩

theorem check_old (b : Nat) (w : World) (h0 : w.cell? ⟨b, 0, none⟩ = some (.pointer (some ⟨b, 0, none⟩))) :
    Calls Tryd.prog 46 #[.pointer (some ⟨b, 0, none⟩)] w fun e w' => e = .returned (.tuple #[]) ∧ w' = w :=
  Any.Builder_copyCheck_used { Tryd.lays156 with } Tryd.Builder_Extra_156.toX72 b w h0

/-- Behind it the builder is used. -/
theorem check_walk {B b : Nat} {bs : List Value} {w : World} (h : Lib.IsBuilderF 54 5 B b bs w) :
    Calls Tryd.prog 46 #[.pointer (some ⟨b, 0, none⟩)] w fun e w' => e = .returned (.tuple #[]) ∧ Lib.BuilderAtF 54 5 B b (.pointer (some ⟨b, 0, none⟩)) bs w' ∧ Below B w w' ∧ Fr b w w' := by
  rcases h with h | h
  · refine (check_new b w h.cell0 h.shape h.frozen0).mono ?_
    rintro e w' ⟨rfl, rfl⟩
    exact ⟨rfl, h.used _, (Below.refl B w).setCell (p := ⟨b, 0, none⟩) h.1 _, (Lib.OthersKept.refl _ _ w).setCell ⟨b, 0, none⟩ rfl _⟩
  · refine (check_old b w h.cell0).mono ?_
    rintro e w' ⟨rfl, rfl⟩
    exact ⟨rfl, h, Below.refl B _, Fr.refl b _⟩
end Go.Proofs.YtgdafolidifdoaaDoor.Tp
