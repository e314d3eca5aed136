/- Maps from texts to what is held, in memory: what is looked up, stored, taken away; how many there are. Conditions: keys of 64 bytes at most. -/
import Derived.Test.YtbpelhfbgjplbaaRows
import Derived.WalkKit
import Derived.ProofKit
import Derived.Maps.OwnSet
import Derived.Maps.RangeWalk
namespace Go.Proofs.Ytbpelhfbgjplbaa.Ca
open Go.ChangeShapes Go.WideShapes Go.ChangeAt Go.RowKit
open Go.Maps (Keyed)

/-- A pointer to a block, or none. -/
def ptr (o : Option Nat) : Value := .pointer (o.map fun b => ⟨b, 0, none⟩)
def pd (o : Option Nat) : DataW Unit := match o with | none => .nil | some b => .lit (.int .i64 (b : Nat))
/-- How it reads. -/
def Rp : Value → Option (DataW Unit × List MemPlace)
  | .pointer none => some (pd none, [])
  | .pointer (some ⟨b, 0, none⟩) => some (pd (some b), [])
  | _ => none
theorem Rp_ptr (o : Option Nat) : Rp (ptr o) = some (pd o, []) := by cases o <;> rfl
theorem Rp_inv {v : Value} {z : DataW Unit × List MemPlace} (h : Rp v = some z) : ∃ o, v = ptr o ∧ z = (pd o, []) := by
  unfold Rp at h
  split at h
  · injection h with h; exact ⟨none, rfl, h.symm⟩
  · rename_i b
    injection h with h; exact ⟨some b, rfl, h.symm⟩
  · cases h
theorem pd_inj {a b : Option Nat} (h : pd a = pd b) : a = b := by
  cases a <;> cases b <;> simp [pd] at h ⊢
  omega

theorem keyed : Keyed Try.prog 9 := Maps.string_keyed Try.underlying9
theorem info54 : (Try.prog.info? 54).map (·.zero) = some (some (ptr none)) := by kernel_rfl
theorem zero54 (w : World) : (zeroValue 54).run Try.prog w = .ok (ptr none) w := by
  have h := info54
  cases hq : Try.prog.info? 54 with
  | none => rw [hq] at h; simp at h
  | some i =>
    rw [hq] at h
    have hz : i.zero = some (ptr none) := by simpa using h
    simp [zeroValue, typeInfo, hq, hz]

/-- A key's sign. -/
def kl (s : ByteArray) : Lit := .string s.data.toList
theorem kl_inj {a b : ByteArray} (h : kl a = kl b) : a = b := by
  simp only [kl, Lit.string.injEq] at h
  cases a; cases b
  rw [ByteArray.mk.injEq]
  exact Array.toList_inj.1 h
theorem keyIs (s : ByteArray) (h : s.size ≤ 64) : keyOf Try.prog 9 (.string s) = some (kl s) := WideMaps.keyOf_string_mk Try.underlying9 (by unfold maxLen; omega)
theorem litk (s : ByteArray) : WideAt.IsKeyLit (kl s) := trivial

/-- A map of what is held, in memory. -/
structure MP (w : World) (b : Nat) (M : ByteArray → Option Nat) (n : Nat) : Prop where
  out : ∃ D, w.ownsMap Try.prog 9 Rp b n D ∧ Maps.size D = n ∧ (∀ k, Maps.has D (kl k) = (M k).isSome) ∧ (∀ k x, M k = some x → ∀ z, D.atKey (kl k) z = pd (some x))

theorem tight {w : World} {b n : Nat} {D : DataW Unit} (h : w.ownsMap Try.prog 9 Rp b n D) : w.ownsMap Try.prog 9 Rp b (Maps.size D) D := by
  obtain ⟨es, c, h1, h2, h3, h4⟩ := h
  refine ⟨es, c, h1, h2, ?_, h4⟩
  rw [h4]
  simp [Maps.size, length_sorted]
theorem MP.lt {w : World} {b n : Nat} {M : ByteArray → Option Nat} (h : MP w b M n) : b < w.heap.size := by
  obtain ⟨D, h1, _⟩ := h.out
  exact h1.lt
theorem MP.block {w : World} {b n : Nat} {M : ByteArray → Option Nat} (h : MP w b M n) : ∃ es c, w.heap[b]? = some (.map es c) := by
  obtain ⟨D, ⟨es, c, h1, _⟩, _⟩ := h.out
  exact ⟨es, c, h1⟩
theorem MP.same {w w' : World} {b n : Nat} {M : ByteArray → Option Nat} (h : MP w b M n) (hb : w'.heap[b]? = w.heap[b]?) : MP w' b M n := by
  obtain ⟨D, ⟨es, c, h1, h2⟩, h3⟩ := h.out
  exact ⟨D, ⟨es, c, hb.trans h1, h2⟩, h3⟩
theorem MP.congr {w : World} {b n : Nat} {M N : ByteArray → Option Nat} (h : MP w b M n) (e : ∀ k, N k = M k) : MP w b N n := by
  obtain rfl : N = M := funext e
  exact h
theorem MP.made (w : World) : MP (w.alloc (.map #[] 0)) w.heap.size (fun _ => none) 0 := by
  refine ⟨.map [], World.ownsMap_made w _ _ _, rfl, fun _ => rfl, ?_⟩
  intro k x h; cases h

theorem MP.look {w : World} {b n : Nat} {M : ByteArray → Option Nat} (h : MP w b M n) (k : ByteArray) (hk : k.size ≤ 64) :
    (Instr.lookup 57 (.map (some b)) (.string k) false).run Try.prog w = .ok (ptr (M k)) w := by
  obtain ⟨D, h1, h2, h3, h4⟩ := h.out
  obtain ⟨v, ps, hr, hv⟩ := h1.lookup keyed Try.underlying57 (zero54 w) (Rp_ptr none) (keyIs k hk)
  rw [hr]
  obtain ⟨o, rfl, hz⟩ := Rp_inv hv
  have e : o = M k := by
    apply pd_inj
    have hz := congrArg Prod.fst hz
    rw [← show _ = pd o from hz]
    cases hm : M k with
    | none => rw [Maps.atKey_of_not_has (by rw [h3, hm]; rfl)]
    | some q => exact h4 k q hm _
  rw [e]
theorem MP.len {w : World} {b n : Nat} {M : ByteArray → Option Nat} (h : MP w b M n) (ty : TypeId) : (Builtin.len_ #[57] ty #[.map (some b)]).run Try.prog w = .ok (.int .i64 (n : Nat)) w := by
  obtain ⟨D, h1, h2, h3, h4⟩ := h.out
  have := h1.len Try.underlying57 ty
  rwa [h2] at this

/-- One block alone turns. -/
structure One (b : Nat) (w w' : World) : Prop where
  below : ∀ B, B ≤ b → Below B w w'
  size : w'.heap.size = w.heap.size
  block : ∀ k, k ≠ b → w'.heap[k]? = w.heap[k]?
theorem One.of {b : Nat} {w w' : World} (h : w.mapTurned w' b) : One b w w' := by
  have hg := h.grown
  obtain ⟨es, c, es', c', hb, rfl⟩ := h
  refine ⟨fun B hB => (Below.refl B w).grown (w := w) hg ?_ (fun k e => by injection e with e; omega), by simp [ChangeMaps.setBlock], fun k hk => ChangeMaps.heap_setBlock_other hb _ hk⟩
  have := (Array.getElem?_eq_some_iff.1 hb).1
  omega

def putM (M : ByteArray → Option Nat) (s : ByteArray) (x : Nat) : ByteArray → Option Nat := fun k => if k = s then some x else M k
def delM (M : ByteArray → Option Nat) (s : ByteArray) : ByteArray → Option Nat := fun k => if k = s then none else M k

theorem MP.store {w : World} {b n : Nat} {M : ByteArray → Option Nat} (h : MP w b M n) (hn : n < 100000) (s : ByteArray) (hs : s.size ≤ 64) (x : Nat) :
    ∃ w', (Instr.mapUpdate 57 (.map (some b)) (.string s) (ptr (some x))).run Try.prog w = .ok () w' ∧ MP w' b (putM M s x) (if (M s).isSome then n else n + 1) ∧ One b w w' := by
  obtain ⟨D, h1, h2, h3, h4⟩ := h.out
  obtain ⟨w', hr, h5, h6⟩ := h1.store keyed Try.underlying57 (by unfold maxLen; omega) (keyIs s hs) (Rp_ptr (some x))
  have hz : Maps.size (D.put (kl s) (pd (some x))) = (if (M s).isSome then n else n + 1) := by rw [Maps.size_put (h1.tidy keyed), h3, h2]
  refine ⟨w', hr, ⟨_, hz ▸ tight h5, hz, fun k => ?_, fun k q hq z => ?_⟩, One.of h6⟩
  · unfold putM
    by_cases e : k = s
    · subst e; rw [if_pos rfl, Maps.has_put_same h1.isMap (litk k)]; rfl
    · rw [if_neg e, Maps.has_put_other (fun q => e (kl_inj q)), h3]
  · unfold putM at hq
    by_cases e : k = s
    · subst e; rw [if_pos rfl] at hq; obtain rfl := Option.some.inj hq; exact Maps.atKey_put_same h1.isMap (litk k) _ _
    · rw [if_neg e] at hq; rw [Maps.atKey_put_other (fun q => e (kl_inj q))]; exact h4 k q hq z
theorem MP.drop {w : World} {b n : Nat} {M : ByteArray → Option Nat} (h : MP w b M n) (s : ByteArray) (hs : s.size ≤ 64) (ty : TypeId) :
    ∃ w', (Builtin.delete_ #[57, 9] ty #[.map (some b), .string s]).run Try.prog w = .ok (.tuple #[]) w' ∧ MP w' b (delM M s) (if (M s).isSome then n - 1 else n) ∧ One b w w' := by
  obtain ⟨D, h1, h2, h3, h4⟩ := h.out
  obtain ⟨w', hr, h5, h6⟩ := h1.drop keyed Try.underlying57 (keyIs s hs) ty
  have hz : Maps.size (D.del (kl s)) = (if (M s).isSome then n - 1 else n) := by
    have := Maps.size_del (k := kl s) (h1.tidy keyed)
    rw [h3, h2] at this
    split <;> rename_i q
    · rw [if_pos q] at this; omega
    · rw [if_neg q] at this; omega
  refine ⟨w', hr, ⟨_, hz ▸ tight h5, hz, fun k => ?_, fun k q hq z => ?_⟩, One.of h6⟩
  · unfold delM
    by_cases e : k = s
    · subst e; rw [if_pos rfl, Maps.has_del_same]; rfl
    · rw [if_neg e, Maps.has_del_other (fun q => e (kl_inj q)), h3]
  · unfold delM at hq
    by_cases e : k = s
    · subst e; rw [if_pos rfl] at hq; cases hq
    · rw [if_neg e] at hq; rw [Maps.atKey_del_other (fun q => e (kl_inj q))]; exact h4 k q hq z
end Go.Proofs.Ytbpelhfbgjplbaa.Ca
