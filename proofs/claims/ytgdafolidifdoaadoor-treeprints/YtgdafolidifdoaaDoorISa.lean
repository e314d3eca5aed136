/- Lines of statements, one by one. No condition. -/
import Derived.Test.YtgdafolidifdoaaDoorIR
namespace Go.Proofs.YtgdafolidifdoaaDoor.Tp
open Go.ChangeShapes Go.WideShapes Go.ChangeAt Go.RowKit

theorem pr_one (d : Nat) (k pos : Int) (to fd fr : ByteArray) (e : Ex) (bo el r : Sts) : pr d (.one k pos to fd fr e bo el r) = pr d (.one k pos to fd fr e bo el .nil) ++ pr d r := by
  rw [pr_node, pr_node, pr_nil]
  rw [show ∀ x : ByteArray, x ++ (⟨#[]⟩ : ByteArray) = x from app_em]
theorem pr_else (d : Nat) (k pos : Int) (to fd fr : ByteArray) (e : Ex) (bo el : Sts) (h4 : ¬ k = 4) (h5 : ¬ k = 5) : pr d (.one k pos to fd fr e bo el .nil) = tb d ++ cat [sml k to fd fr e, ⟨#[59]⟩] ++ ⟨#[10]⟩ := by
  rw [pr_node, if_neg h4, if_neg h5]
  apply bext
  simp [pr_nil, cat, ByteArray.data_append]
theorem pr5 {d : Nat} {pos : Int} {to fd fr : ByteArray} {e : Ex} {bo el : Sts} : pr d (.one 5 pos to fd fr e bo el .nil) = (tb d ++ cat [⟨#[119, 104, 105, 108, 101, 32]⟩, fr, ⟨#[32, 123]⟩] ++ ⟨#[10]⟩) ++ pr (d + 1) bo ++ (tb d ++ cat [⟨#[125]⟩] ++ ⟨#[10]⟩) := by
  rw [pr_node, if_neg (by decide), if_pos rfl]
  apply bext
  simp [pr_nil, cat, ByteArray.data_append]
theorem pr4_no (d : Nat) (pos : Int) (to fd fr : ByteArray) (e : Ex) (bo el : Sts) (h : el.len = 0) : pr d (.one 4 pos to fd fr e bo el .nil) = (tb d ++ cat [⟨#[105, 102, 32]⟩, fr, ⟨#[32, 123]⟩] ++ ⟨#[10]⟩) ++ pr (d + 1) bo ++ (tb d ++ cat [⟨#[125]⟩] ++ ⟨#[10]⟩) := by
  rw [pr_node, if_pos rfl, if_pos h]
  apply bext
  simp [pr_nil, cat, ByteArray.data_append]
theorem pr4_yes (d : Nat) (pos : Int) (to fd fr : ByteArray) (e : Ex) (bo el : Sts) (h : el.len ≠ 0) : pr d (.one 4 pos to fd fr e bo el .nil) = (tb d ++ cat [⟨#[105, 102, 32]⟩, fr, ⟨#[32, 123]⟩] ++ ⟨#[10]⟩) ++ pr (d + 1) bo ++ (tb d ++ cat [⟨#[125, 32, 101, 108, 115, 101, 32, 123]⟩] ++ ⟨#[10]⟩) ++ pr (d + 1) el ++ (tb d ++ cat [⟨#[125]⟩] ++ ⟨#[10]⟩) := by
  rw [pr_node, if_pos rfl, if_neg h]
  apply bext
  simp [pr_nil, cat, ByteArray.data_append]
end Go.Proofs.YtgdafolidifdoaaDoor.Tp
