/- Plain facts: the check of two texts, one behind the other, is what crc.More answers from the first one's check, and what the moved first check and the second one's come to. Conditions: none. -/
import Derived.Test.YtidikhagpdfbcaaWalkC
namespace Go.Proofs.Ytidikhagpdfbcaa
open Chk

theorem byte_append (a b : ByteArray) (k : Nat) : byte (a ++ b) k = if k < a.size then byte a k else byte b (k - a.size) := by
  unfold byte
  have hs : (a ++ b).size = a.size + b.size := ByteArray.size_append
  by_cases h1 : k < a.size
  · rw [if_pos h1, dif_pos (show k < (a ++ b).size by omega), dif_pos h1, ByteArray.getElem_append_left h1]
  · rw [if_neg h1]
    by_cases h2 : k - a.size < b.size
    · rw [dif_pos (show k < (a ++ b).size by omega), dif_pos h2, ByteArray.getElem_append_right (by omega)]
    · rw [dif_neg (show ¬ k < (a ++ b).size by omega), dif_neg h2]

theorem run_append (a b : ByteArray) (c : Nat) : run (byte (a ++ b)) c (a ++ b).size = run (byte b) (run (byte a) c a.size) b.size := by
  have hs : (a ++ b).size = a.size + b.size := ByteArray.size_append
  rw [hs, run_add]
  rw [run_congr (h := byte a) c a.size (fun k hk => by rw [byte_append, if_pos hk])]
  exact run_congr _ _ (fun k _ => by rw [byte_append, if_neg (by omega), Nat.add_sub_cancel_left])

/-- Bytes behind others. -/
theorem more_check (a b : ByteArray) : more (check (byte a) a.size) b = check (byte (a ++ b)) (a ++ b).size := by
  unfold more check
  rw [xor_can, run_append]

/-- Two checks, the first one moved on. -/
theorem join_check (a b : ByteArray) : It (8 * b.size) (check (byte a) a.size) ^^^ check (byte b) b.size = check (byte (a ++ b)) (a ++ b).size := by
  rw [check_join]
  unfold check
  rw [run_append]
end Go.Proofs.Ytidikhagpdfbcaa
