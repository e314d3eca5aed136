/- A cache in memory, and what stays while parts of it turn. No condition but those that each row names. -/
import Derived.Test.YtbpelhfbgjplbaaJE
namespace Go.Proofs.Ytbpelhfbgjplbaa.Ca
open Go.ChangeShapes Go.WideShapes Go.ChangeAt Go.RowKit
open N (Kept)
open Q (kept_cell Kv Vn Km)
variable {E : Nat → Prop} {X : List En}

/-- Blocks of a kind stay. -/
structure Ky (k : Obj → Prop) (w w' : World) : Prop where
  out : ∀ (n : Nat) (o : Obj), w.heap[n]? = some o → k o → w'.heap[n]? = some o
  sz : w.heap.size ≤ w'.heap.size
def isC (o : Obj) : Prop := ∃ cs fr, o = .cells cs 59 fr
def isI (o : Obj) : Prop := ∃ cs fr, o = .cells cs 56 fr
def isM (o : Obj) : Prop := ∃ es c, o = .map es c
def isV (o : Obj) : Prop := ∃ cs t fr, o = .cells cs t fr ∧ (t = 9 ∨ t = 26)
theorem Ky.kept {k : Obj → Prop} {w w' : World} (h : Kept w w') : Ky k w w' := ⟨fun _ _ e _ => h.block e, h.size⟩
theorem Ky.trans {k : Obj → Prop} {a b c : World} (h : Ky k a b) (g : Ky k b c) : Ky k a c := ⟨fun n o e r => g.out n o (h.out n o e r) r, Nat.le_trans h.sz g.sz⟩

theorem CB.ky {w w' : World} {p : Nat} {q : Cc} (h : CB w p q) (k : Ky isC w w') : CB w' p q := ⟨k.out _ _ h.out ⟨_, _, rfl⟩⟩
theorem Hs.ky {w w' : World} {e : Nat} {es : List En} (h : Hs X w e es) (k : Ky isI w w') : Hs X w' e es := by
  obtain ⟨G, h1, h2, h3⟩ := h.out
  exact ⟨G, ⟨fun b x hb => k.out _ _ (h1.out b x hb) ⟨_, _, rfl⟩⟩, h2, h3.ky fun x _ cs fr e => k.out _ _ e ⟨_, _, rfl⟩⟩
theorem Lo.ky {w w' : World} {e : Nat} {es : List En} {x : En} (h : Lo X w e es x) (k : Ky isI w w') : Lo X w' e es x := by
  obtain ⟨G, h1, h2, h3, h4, h5⟩ := h.out
  exact ⟨G, ⟨fun b x hb => k.out _ _ (h1.out b x hb) ⟨_, _, rfl⟩⟩, h2, h3.ky fun x _ cs fr e => k.out _ _ e ⟨_, _, rfl⟩, h4.ky fun cs fr e => k.out _ _ e ⟨_, _, rfl⟩, h5⟩
theorem MP.ky {w w' : World} {b n : Nat} {M : ByteArray → Option Nat} (h : MP w b M n) (k : Ky isM w w') : MP w' b M n := by
  obtain ⟨es, c, e⟩ := h.block
  exact h.same ((k.out _ _ e ⟨_, _, rfl⟩).trans e.symm)
theorem Kv.ky {w w' : World} {B b m : Nat} {f : ByteArray → Option ByteArray} (h : Kv E w B b m f) (k : Ky isV w w') : Kv E w' B b m f := by
  obtain ⟨M, p, q, c, d, h1, h2⟩ := h.out
  refine ⟨M, p, q, c, d, ⟨k.out _ _ h1.at' ⟨_, _, _, rfl, .inr rfl⟩, h1.ks.far fun a ha => ?_, h1.ts.far fun a ha => ?_, h1.apart, h1.big, h1.nd, fun x hx => ⟨(h1.ex x hx).1, (h1.ex x hx).2.1, (h1.ex x hx).2.2.1, Nat.lt_of_lt_of_le (h1.ex x hx).2.2.2 k.sz⟩⟩, h2⟩
  · subst ha
    obtain ⟨_, cs, h3⟩ := h1.ks.blk
    exact (k.out _ _ h3 ⟨_, _, _, rfl, .inl rfl⟩).trans h3.symm
  · subst ha
    obtain ⟨_, cs, h3⟩ := h1.ts.blk
    exact (k.out _ _ h3 ⟨_, _, _, rfl, .inl rfl⟩).trans h3.symm

/-- What may stay while a cache is used: no map, nothing of a cache, no texts but those of E. -/
def Cl (E : Nat → Prop) (k : Nat) (o : Obj) : Prop := (∀ es c, o ≠ .map es c) ∧ ∀ cs t fr, o = .cells cs t fr → t ≠ 26 ∧ t ≠ 56 ∧ t ≠ 59 ∧ (t = 9 → E k)
structure Vc (E : Nat → Prop) (B : Nat) (w w' : World) : Prop where
  low : Below B w w'
  oth : ∀ (k : Nat) (o : Obj), w.heap[k]? = some o → Cl E k o → w'.heap[k]? = some o
theorem Vc.refl (B : Nat) (w : World) : Vc E B w w := ⟨Below.refl _ _, fun _ _ h _ => h⟩
theorem Vc.trans {B : Nat} {a b c : World} (h : Vc E B a b) (k : Vc E B b c) : Vc E B a c := ⟨h.low.trans k.low, fun n o e h1 => k.oth n o (h.oth n o e h1) h1⟩
theorem Vc.of {w w' : World} (h : Kept w w') {B : Nat} (hB : B ≤ w.heap.size) : Vc E B w w' := ⟨h.out.mono hB, fun _ _ e _ => h.block e⟩
theorem Vc.size {B : Nat} {w w' : World} (h : Vc E B w w') : w.heap.size ≤ w'.heap.size := h.low.size
theorem Vc.kept {w w' : World} (h : Vc E w.heap.size w w') : Kept w w' := ⟨h.low⟩
theorem Vc.mono {B B' : Nat} {w w' : World} (h : Vc E B w w') (hB : B' ≤ B) : Vc E B' w w' := ⟨h.low.mono hB, h.oth⟩

theorem Fi.vc {B : Nat} {w w' : World} (h : Fi B w w') : Vc E B w w' := ⟨h.low, fun k o e c => h.oth k o e fun _ _ q => (c.2 _ _ _ q).2.1 rfl⟩
theorem Fi.kC {B : Nat} {w w' : World} (h : Fi B w w') : Ky isC w w' := ⟨fun n o e ⟨cs, fr, q⟩ => h.oth n o e (fun _ _ q' => (by rw [q] at q'; injection q' with _ q' _; exact absurd q' (by decide))), h.low.size⟩
theorem Fi.kM {B : Nat} {w w' : World} (h : Fi B w w') : Ky isM w w' := ⟨fun n o e ⟨cs, fr, q⟩ => h.oth n o e (fun _ _ q' => (by rw [q] at q'; cases q')), h.low.size⟩
theorem Fi.kV {B : Nat} {w w' : World} (h : Fi B w w') : Ky isV w w' := ⟨fun n o e ⟨cs, t, fr, q, ht⟩ => h.oth n o e (fun _ _ q' => by
  rw [q] at q'; injection q' with _ q' _
  rcases ht with rfl | rfl
  · exact absurd q' (by decide)
  · exact absurd q' (by decide)), h.low.size⟩
theorem Vn.vc {B : Nat} {w w' : World} (h : Vn E B w w') : Vc E B w w' := ⟨h.low, fun k o e c => by
  by_cases h9 : ∃ cs fr, o = .cells cs 9 fr
  · obtain ⟨cs, fr, q⟩ := h9
    exact h.oth k o e (.inr ((c.2 _ _ _ q).2.2.2 rfl))
  · exact h.oth k o e (.inl fun cs t fr q => ⟨fun e9 => h9 ⟨cs, fr, by rw [q, e9]⟩, (c.2 _ _ _ q).1⟩)⟩
theorem Vn.kC {B : Nat} {w w' : World} (h : Vn E B w w') : Ky isC w w' := ⟨fun n o e ⟨cs, fr, q⟩ => h.oth n o e (.inl (fun _ _ _ q' => (by rw [q] at q'; injection q' with _ q' _; subst q'; exact ⟨by decide, by decide⟩))), h.low.size⟩
theorem Vn.kI {B : Nat} {w w' : World} (h : Vn E B w w') : Ky isI w w' := ⟨fun n o e ⟨cs, fr, q⟩ => h.oth n o e (.inl (fun _ _ _ q' => (by rw [q] at q'; injection q' with _ q' _; subst q'; exact ⟨by decide, by decide⟩))), h.low.size⟩
theorem Vn.kM {B : Nat} {w w' : World} (h : Vn E B w w') : Ky isM w w' := ⟨fun n o e ⟨es, c, q⟩ => h.oth n o e (.inl (fun _ _ _ q' => (by rw [q] at q'; cases q'))), h.low.size⟩
/-- One map turns. -/
theorem One.vc {w w' : World} {b n B : Nat} {M : ByteArray → Option Nat} (m : MP w b M n) (h : One b w w') (hB : B ≤ b) : Vc E B w w' := ⟨h.below B hB, fun k o e c => by
  rw [h.block k ?_]
  · exact e
  · rintro rfl
    obtain ⟨es, cl, e2⟩ := m.block
    rw [e] at e2
    injection e2 with e2
    exact c.1 _ _ e2⟩
theorem One.ky {w w' : World} {b n : Nat} {M : ByteArray → Option Nat} {k : Obj → Prop} (m : MP w b M n) (h : One b w w') (hk : ∀ es c, ¬ k (.map es c)) : Ky k w w' := ⟨fun n o e r => by
  rw [h.block n ?_]
  · exact e
  · rintro rfl
    obtain ⟨es, cl, e2⟩ := m.block
    rw [e] at e2
    injection e2 with e2
    subst e2
    exact hk _ _ r, Nat.le_of_eq h.size.symm⟩
theorem nC (es : Array MapEntry) (c : Nat) : ¬ isC (.map es c) := fun ⟨_, _, q⟩ => by cases q
theorem nI (es : Array MapEntry) (c : Nat) : ¬ isI (.map es c) := fun ⟨_, _, q⟩ => by cases q
theorem nV (es : Array MapEntry) (c : Nat) : ¬ isV (.map es c) := fun ⟨_, _, _, q, _⟩ => by cases q
/-- A cell of the cache's own block turns. -/
structure Cf (B p : Nat) (w w' : World) : Prop where
  low : Below B w w'
  oth : ∀ (k : Nat) (o : Obj), w.heap[k]? = some o → k ≠ p → w'.heap[k]? = some o
  blk : ∃ cs fr, w.heap[p]? = some (.cells cs 59 fr)
theorem Cf.ky {B p : Nat} {w w' : World} (h : Cf B p w w') {k : Obj → Prop} (hk : ∀ cs fr, ¬ k (.cells cs 59 fr)) : Ky k w w' := ⟨fun n o e r => h.oth n o e (by
  rintro rfl
  obtain ⟨cs, fr, e2⟩ := h.blk
  rw [e] at e2
  injection e2 with e2
  subst e2
  exact hk _ _ r), h.low.size⟩
theorem cI (cs : Array Value) (fr : Nat × Nat) : ¬ isI (.cells cs 59 fr) := fun ⟨_, _, q⟩ => by injection q with _ q _; exact absurd q (by decide)
theorem cM (cs : Array Value) (fr : Nat × Nat) : ¬ isM (.cells cs 59 fr) := fun ⟨_, _, q⟩ => by cases q
theorem cV (cs : Array Value) (fr : Nat × Nat) : ¬ isV (.cells cs 59 fr) := fun ⟨_, _, _, q, r⟩ => by
  injection q with _ q _
  rcases r with rfl | rfl
  · exact absurd q (by decide)
  · exact absurd q (by decide)
theorem Cf.vc {B p : Nat} {w w' : World} (h : Cf B p w w') : Vc E B w w' := ⟨h.low, fun k o e c => h.oth k o e (by
  rintro rfl
  obtain ⟨cs, fr, e2⟩ := h.blk
  rw [e] at e2
  injection e2 with e2
  exact (c.2 _ _ _ e2).2.2.1 rfl)⟩
theorem CB.set {w : World} {p : Nat} {q q' : Cc} (h : CB w p q) (i : Nat) (v : Value) (e : q.cells.setIfInBounds i v = q'.cells) {B : Nat} (hB : B ≤ p) : CB (w.setCell ⟨p, i, none⟩ v) p q' ∧ Cf B p w (w.setCell ⟨p, i, none⟩ v) := by
  refine ⟨⟨?_⟩, ⟨(Below.refl B w).setCell (p := ⟨p, i, none⟩) hB v, fun k o e hk => ?_, ⟨_, _, h.out⟩⟩⟩
  · rw [heap_setCell_same w p i _ _ _ h.out, ← e]
  · rw [heap_setCell_other w ⟨p, i, none⟩ k _ hk]; exact e

/-- Where a key is held; where one is that is to be written. -/
def hmap (es : List En) (k : ByteArray) : Option Nat := (es.find? fun x => decide (x.k = k)).map (·.b)
def cmap (es : List En) (k : ByteArray) : Option Nat := (es.find? fun x => decide (x.k = k) && x.d).map (·.b)
def cnt (es : List En) : Nat := (es.filter (·.d)).length

/-- A cache in memory. -/
structure CM (E : Nat → Prop) (X : List En) (w : World) (B p : Nat) (q : Cc) (es : List En) (n : Nat) (f : ByteArray → Option ByteArray) : Prop where
  cb : CB w p q
  hs : Hs X w q.e es
  hm : MP w q.mh (hmap es) es.length
  cm : MP w q.mc (cmap es) (cnt es)
  kv : Kv E w B q.b n f
  kn : (es.map (·.k)).Nodup
  sz : ∀ x ∈ es, x.k.size ≤ 64
  ne : q.mh ≠ q.mc
  bd : Bd B q.e es
  le : B ≤ p ∧ B ≤ q.mh ∧ B ≤ q.mc
  base : B ≤ w.heap.size
theorem CM.kept {w w' : World} {B p : Nat} {q : Cc} {es : List En} {n : Nat} {f : ByteArray → Option ByteArray} (h : CM E X w B p q es n f) (k : Kept w w') : CM E X w' B p q es n f :=
  ⟨h.cb.ky (.kept k), h.hs.ky (.kept k), h.hm.ky (.kept k), h.cm.ky (.kept k), Kv.ky h.kv (.kept k), h.kn, h.sz, h.ne, h.bd, h.le, Nat.le_trans h.base k.size⟩
end Go.Proofs.Ytbpelhfbgjplbaa.Ca
