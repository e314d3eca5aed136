/- The library's contract on slices.Sort at texts, laid; a row of texts of one's own, sorted. Conditions: texts of any length, 1000 of them at most. -/
import Derived.Shelf.SortM.Plain
import Derived.Shelf.SortM.SortNone
import Derived.Sort.OwnSorted
import Derived.Test.YtbpelhfbgjplbaaKB
namespace Go.Proofs
open Go.Shelf
def Try.sortS_ren : Go.Shelf.Ren := ⟨fun | 6 => 24 | 8 => 31 | 9 => 30 | 19 => 44 | 20 => 45 | 21 => 35 | 22 => 36 | 23 => 37 | 24 => 38 | 25 => 39 | 26 => 40 | 27 => 41 | 28 => 42 | 29 => 43 | 31 => 47 | 32 => 48 | 36 => 46 | 37 => 49 | 38 => 50 | 39 => 51 | 41 => 52 | n => n, fun | 26 => 24 | 27 => 24 | 29 => 9 | 3 => 3 | 32 => 71 | 0 => 0 | 44 => 81 | 46 => 83 | 4 => 4 | 36 => 74 | 35 => 73 | 41 => 78 | 5 => 5 | 9 => 9 | 53 => 84 | 57 => 88 | 63 => 90 | 64 => 47 | n => n, fun | n => n⟩
theorem Try.sortS : Go.Proofs.SlLaysM.n6 Try.prog Try.sortS_ren := {
  mixed := by kernel_rfl
  f6 := ⟨Try.f24.name, by decide, Try.func24.trans (congrArg some (by kernel_rfl))⟩
  f8 := Try.func31.trans (congrArg some (by kernel_rfl))
  f9 := ⟨Try.f30.name, by decide, Try.func30.trans (congrArg some (by kernel_rfl))⟩
  f19 := Try.func44.trans (congrArg some (by kernel_rfl))
  f20 := Try.func45.trans (congrArg some (by kernel_rfl))
  f21 := ⟨Try.f35.name, by decide, Try.func35.trans (congrArg some (by kernel_rfl))⟩
  f22 := ⟨Try.f36.name, by decide, Try.func36.trans (congrArg some (by kernel_rfl))⟩
  f23 := ⟨Try.f37.name, by decide, Try.func37.trans (congrArg some (by kernel_rfl))⟩
  f24 := ⟨Try.f38.name, by decide, Try.func38.trans (congrArg some (by kernel_rfl))⟩
  f25 := ⟨Try.f39.name, by decide, Try.func39.trans (congrArg some (by kernel_rfl))⟩
  f26 := ⟨Try.f40.name, by decide, Try.func40.trans (congrArg some (by kernel_rfl))⟩
  f27 := ⟨Try.f41.name, by decide, Try.func41.trans (congrArg some (by kernel_rfl))⟩
  f28 := ⟨Try.f42.name, by decide, Try.func42.trans (congrArg some (by kernel_rfl))⟩
  f29 := ⟨Try.f43.name, by decide, Try.func43.trans (congrArg some (by kernel_rfl))⟩
  f31 := Try.func47.trans (congrArg some (by kernel_rfl))
  f32 := Try.func48.trans (congrArg some (by kernel_rfl))
  f36 := ⟨Try.f46.name, by decide, Try.func46.trans (congrArg some (by kernel_rfl))⟩
  f37 := ⟨Try.f49.name, by decide, Try.func49.trans (congrArg some (by kernel_rfl))⟩
  f38 := ⟨Try.f50.name, by decide, Try.func50.trans (congrArg some (by kernel_rfl))⟩
  f39 := ⟨Try.f51.name, by decide, Try.func51.trans (congrArg some (by kernel_rfl))⟩
  f41 := ⟨Try.f52.name, by decide, Try.func52.trans (congrArg some (by kernel_rfl))⟩
  t0 := Try.underlying0
  a0 := Try.isAgg0
  z0 := Try.sizeOf0
  v0 := Try.zeroValue0
  t3 := Try.underlying3
  a3 := Try.isAgg3
  z3 := Try.sizeOf3
  v3 := Try.zeroValue3
  t4 := Try.underlying4
  a4 := Try.isAgg4
  z4 := Try.sizeOf4
  v4 := Try.zeroValue4
  t5 := Try.underlying5
  a5 := Try.isAgg5
  z5 := Try.sizeOf5
  v5 := Try.zeroValue5
  t9 := Try.underlying9
  a9 := Try.isAgg9
  z9 := Try.sizeOf9
  v9 := Try.zeroValue9
  t26 := Try.underlying24
  a26 := Try.isAgg24
  z26 := Try.sizeOf24
  v26 := Try.zeroValue24
  t27 := Try.underlying24
  a27 := Try.isAgg24
  z27 := Try.sizeOf24
  v27 := Try.zeroValue24
  t29 := Try.underlying9
  a29 := Try.isAgg9
  z29 := Try.sizeOf9
  v29 := Try.zeroValue9
  t32 := Try.underlying71
  a32 := Try.isAgg71
  z32 := Try.sizeOf71
  v32 := Try.zeroValue71
  t35 := Try.underlying73
  a35 := Try.isAgg73
  z35 := Try.sizeOf73
  v35 := Try.zeroValue73
  t36 := Try.underlying74
  a36 := Try.isAgg74
  z36 := Try.sizeOf74
  v36 := Try.zeroValue74
  t41 := Try.underlying78
  a41 := Try.isAgg78
  z41 := Try.sizeOf78
  v41 := Try.zeroValue78
  t44 := Try.underlying81
  a44 := Try.isAgg81
  z44 := Try.sizeOf81
  v44 := Try.zeroValue81
  t46 := Try.underlying83
  a46 := Try.isAgg83
  z46 := Try.sizeOf83
  v46 := Try.zeroValue83
  t53 := Try.underlying84
  a53 := Try.isAgg84
  z53 := Try.sizeOf84
  v53 := Try.zeroValue84
  t57 := Try.underlying88
  a57 := Try.isAgg88
  z57 := Try.sizeOf88
  v57 := Try.zeroValue88
  t63 := Try.underlying90
  a63 := Try.isAgg90
  z63 := Try.sizeOf90
  v63 := Try.zeroValue90
  t64 := Try.underlying47
  a64 := Try.isAgg47
  z64 := Try.sizeOf47
  v64 := Try.zeroValue47 }
end Go.Proofs
namespace Go.Proofs.Ytbpelhfbgjplbaa.Q
open Go.ChangeShapes Go.WideShapes Go.ChangeAt Go.RowKit
open N (Kept)
open Go.Sort Go.Proofs

theorem sc_enc (l : List ByteArray) : (l.map fun x => x.data.toList).map encStr = sc l := by
  unfold sc
  rw [List.map_map]
  refine List.map_congr_left fun x _ => ?_
  simp [Function.comp, encStr]
/-- A row of texts of one's own, sorted: the same ones. -/
theorem sort_walk {w : World} {B n c : Nat} {p : Option Addr} {l : List ByteArray} (h : Own w B p n c l) (hn : n ≤ 100000) :
    Calls Try.prog 24 #[.slice p n c] w fun r w' => r = .returned (.tuple #[]) ∧ (∃ l', l'.Perm l ∧ Own w' B p n c l') ∧ w.grownBy w' (Value.slice p n c).ownBlock := by
  have hl := h.len
  rcases h.out.2 with ⟨hnil, hn0⟩ | ⟨g, cap, cur, hv, hbase, hb, h1, h2, h3, h4⟩
  · subst hn0
    have s0 : Calls Try.prog 24 #[.slice p 0 c] w _ := AnyM.slices_Sort_string_none Try.sortS p c w
    refine s0.mono ?_
    rintro r w' ⟨rfl, rfl⟩
    exact ⟨rfl, ⟨l, List.Perm.refl _, h⟩, ⟨rfl, rfl, rfl, Nat.le_refl _, fun _ _ _ => rfl⟩⟩
  · injection hv with hv _ hc
    subst hv
    subst hc
    obtain ⟨ss, hss⟩ : ∃ ss, ss = l.map fun x : ByteArray => x.data.toList := ⟨_, rfl⟩
    have hsl : ss.length = n := by rw [hss, List.length_map]; exact hl
    have he : ss.map encStr = sc l := by rw [hss]; exact sc_enc l
    have hH : Holds encStr w g 0 ss.toArray := holds_of_block hb (by rw [he, hsl]; simpa using h4)
    have s1 : Calls Try.prog 24 #[.slice (some ⟨g, 0, none⟩) ss.length c] w _ := AnyM.slices_Sort_string Try.sortS g 0 c ss w hH (Array.getElem?_eq_some_iff.1 hb).1 (by omega)
    rw [hsl] at s1
    refine s1.mono ?_
    rintro r w' ⟨rfl, k, os, rfl⟩
    obtain ⟨ts, hts⟩ : ∃ ts, ts = ss.mergeSort fun x y => decide (x ≤ y) := ⟨_, rfl⟩
    have hp : ts.Perm ss := by rw [hts]; exact List.mergeSort_perm _ _
    rw [← hts]
    have o2 := ownsRow_sorted (n := k) (os := os) (ss := ss) hp.length_eq hbase hb (by omega) h2 (by simpa using h3)
    rw [hsl] at o2
    refine ⟨rfl, ⟨ts.map fun x => (⟨x.toArray⟩ : ByteArray), ?_, ⟨?_⟩⟩, ?_⟩
    · have := hp.map fun x : List UInt8 => (⟨x.toArray⟩ : ByteArray)
      rw [hss, List.map_map] at this
      have e2 : l.map ((fun x : List UInt8 => (⟨x.toArray⟩ : ByteArray)) ∘ fun x => x.data.toList) = l := by
        have : ((fun x : List UInt8 => (⟨x.toArray⟩ : ByteArray)) ∘ fun x : ByteArray => x.data.toList) = id := by
          funext x; simp [Function.comp]
        rw [this, List.map_id]
      rwa [e2] at this
    · have e3 : sc (ts.map fun x => (⟨x.toArray⟩ : ByteArray)) = ts.map encStr := by
        unfold sc; rw [List.map_map]; rfl
      rw [e3]; exact o2
    · exact grownBy_sorted _
end Go.Proofs.Ytbpelhfbgjplbaa.Q
