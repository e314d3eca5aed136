/- Lines of statements, as the reference puts them together. No condition. -/
import Derived.Test.YtgdafolidifdoaaDoorISa
namespace Go.Proofs.YtgdafolidifdoaaDoor.Tp
open Go.ChangeShapes Go.WideShapes Go.ChangeAt Go.RowKit

theorem pk1 (d : Nat) (pos : Int) (to fd fr : ByteArray) (e : Ex) (bo el : Sts) : pr d (.one 1 pos to fd fr e bo el .nil) = tb d ++ (to ++ ⟨#[32, 61, 32]⟩ ++ ex e ++ ⟨#[59]⟩) ++ ⟨#[10]⟩ := by
  apply bext
  simp [pr_node, pr_nil, sml, ByteArray.data_append]
theorem pk2 (d : Nat) (pos : Int) (to fd fr : ByteArray) (e : Ex) (bo el : Sts) : pr d (.one 2 pos to fd fr e bo el .nil) = tb d ++ (⟨#[64]⟩ ++ to ++ ⟨#[32, 61, 32]⟩ ++ fr ++ ⟨#[59]⟩) ++ ⟨#[10]⟩ := by
  apply bext
  simp [pr_node, pr_nil, sml, ByteArray.data_append]
theorem pk3 (d : Nat) (pos : Int) (to fd fr : ByteArray) (e : Ex) (bo el : Sts) : pr d (.one 3 pos to fd fr e bo el .nil) = tb d ++ (to ++ ⟨#[46]⟩ ++ fd ++ ⟨#[32, 61, 32]⟩ ++ fr ++ ⟨#[59]⟩) ++ ⟨#[10]⟩ := by
  apply bext
  simp [pr_node, pr_nil, sml, ByteArray.data_append]
theorem pk4n (d : Nat) (pos : Int) (to fd fr : ByteArray) (e : Ex) (bo el : Sts) (h : el.len = 0) : pr d (.one 4 pos to fd fr e bo el .nil) = tb d ++ (⟨#[105, 102, 32]⟩ ++ fr ++ ⟨#[32, 123, 10]⟩ ++ pr (d + 1) bo ++ tb d ++ ⟨#[125]⟩) ++ ⟨#[10]⟩ := by
  apply bext
  simp [pr_node, pr_nil, ByteArray.data_append, h]
theorem pk4y (d : Nat) (pos : Int) (to fd fr : ByteArray) (e : Ex) (bo el : Sts) (h : el.len ≠ 0) : pr d (.one 4 pos to fd fr e bo el .nil) = tb d ++ (⟨#[105, 102, 32]⟩ ++ fr ++ ⟨#[32, 123, 10]⟩ ++ pr (d + 1) bo ++ tb d ++ ⟨#[125]⟩ ++ (⟨#[32, 101, 108, 115, 101, 32, 123, 10]⟩ ++ pr (d + 1) el ++ tb d ++ ⟨#[125]⟩)) ++ ⟨#[10]⟩ := by
  apply bext
  simp [pr_node, pr_nil, ByteArray.data_append, h]
theorem pk5 (d : Nat) (pos : Int) (to fd fr : ByteArray) (e : Ex) (bo el : Sts) : pr d (.one 5 pos to fd fr e bo el .nil) = tb d ++ (⟨#[119, 104, 105, 108, 101, 32]⟩ ++ fr ++ ⟨#[32, 123, 10]⟩ ++ pr (d + 1) bo ++ tb d ++ ⟨#[125]⟩) ++ ⟨#[10]⟩ := by
  apply bext
  simp [pr_node, pr_nil, ByteArray.data_append]
theorem pk6 (d : Nat) (pos : Int) (to fd fr : ByteArray) (e : Ex) (bo el : Sts) : pr d (.one 6 pos to fd fr e bo el .nil) = tb d ++ (⟨#[108, 111, 99, 107, 32]⟩ ++ fr ++ ⟨#[59]⟩) ++ ⟨#[10]⟩ := by
  apply bext
  simp [pr_node, pr_nil, sml, ByteArray.data_append]
theorem pk7 (d : Nat) (pos : Int) (to fd fr : ByteArray) (e : Ex) (bo el : Sts) : pr d (.one 7 pos to fd fr e bo el .nil) = tb d ++ (⟨#[117, 110, 108, 111, 99, 107, 32]⟩ ++ fr ++ ⟨#[59]⟩) ++ ⟨#[10]⟩ := by
  apply bext
  simp [pr_node, pr_nil, sml, ByteArray.data_append]
theorem pk8 (d : Nat) (pos : Int) (to fd fr : ByteArray) (e : Ex) (bo el : Sts) : pr d (.one 8 pos to fd fr e bo el .nil) = tb d ++ (⟨#[115, 112, 97, 119, 110, 32]⟩ ++ ex e ++ ⟨#[59]⟩) ++ ⟨#[10]⟩ := by
  apply bext
  simp [pr_node, pr_nil, sml, ByteArray.data_append]
theorem pk9 (d : Nat) (pos : Int) (to fd fr : ByteArray) (e : Ex) (bo el : Sts) : pr d (.one 9 pos to fd fr e bo el .nil) = tb d ++ (ex e ++ ⟨#[59]⟩) ++ ⟨#[10]⟩ := by
  apply bext
  simp [pr_node, pr_nil, sml, ByteArray.data_append]
theorem pk10n (d : Nat) (pos : Int) (to fd : ByteArray) (e : Ex) (bo el : Sts) : pr d (.one 10 pos to fd ⟨#[]⟩ e bo el .nil) = tb d ++ (⟨#[114, 101, 116, 117, 114, 110, 59]⟩) ++ ⟨#[10]⟩ := by
  apply bext
  simp [pr_node, pr_nil, sml, ByteArray.data_append]
theorem pk10y (d : Nat) (pos : Int) (to fd fr : ByteArray) (e : Ex) (bo el : Sts) (h : fr ≠ ⟨#[]⟩) : pr d (.one 10 pos to fd fr e bo el .nil) = tb d ++ (⟨#[114, 101, 116, 117, 114, 110, 32]⟩ ++ fr ++ ⟨#[59]⟩) ++ ⟨#[10]⟩ := by
  apply bext
  simp [pr_node, pr_nil, sml, ByteArray.data_append, h]
theorem pk0 (d : Nat) (k pos : Int) (to fd fr : ByteArray) (e : Ex) (bo el : Sts) (h : ¬ (k = 1 ∨ k = 2 ∨ k = 3 ∨ k = 4 ∨ k = 5 ∨ k = 6 ∨ k = 7 ∨ k = 8 ∨ k = 9 ∨ k = 10)) : pr d (.one k pos to fd fr e bo el .nil) = tb d ++ (⟨#[115, 107, 105, 112, 59]⟩) ++ ⟨#[10]⟩ := by
  have e0 : sml k to fd fr e = ⟨#[115, 107, 105, 112]⟩ := by
    unfold sml
    iterate 8 rw [if_neg (by omega)]
  rw [pr_node, if_neg (by omega), if_neg (by omega), e0]
  apply bext
  simp [pr_nil, ByteArray.data_append]
end Go.Proofs.YtgdafolidifdoaaDoor.Tp
