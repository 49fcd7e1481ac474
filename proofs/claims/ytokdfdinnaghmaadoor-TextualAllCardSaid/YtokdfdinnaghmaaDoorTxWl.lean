/- Plain facts: how many words a record has. -/
import Derived.Test.YtokdfdinnaghmaaDoorTxWm
namespace Go.Proofs.YtokdfdinnaghmaaDoor.Tx
open Go Go.Lib

theorem wayW_len {r n : Ln} : ∀ {t : List Wd}, wayW r t = some n → t.length ≤ 2
  | [], _ => by decide
  | [_], h => by simp
  | [_, _], _ => by simp
  | _ :: _ :: _ :: _, h => by cases h
theorem lastW_len {r n : Ln} : ∀ {t : List Wd}, lastW r t = some n → t.length ≤ 3
  | [], _ => by decide
  | l :: t, h => by
    rw [lastW] at h
    split at h
    · have := wayW_len h; simp; omega
    · have := wayW_len h; omega
theorem tailW_len {r n : Ln} : ∀ {t : List Wd}, tailW r t = some n → t.length ≤ 6
  | [], _ => by decide
  | [_], _ => by simp
  | [_, _], _ => by simp
  | p :: c :: m :: t, h => by
    rw [tailW] at h
    split at h
    · split at h
      · have := lastW_len h; simp; omega
      · cases h
    · have := wayW_len h; omega
theorem parse_len {ws : List Wd} {n : Ln} (h : parseW ws = some n) : ws.length ≤ 13 := by
  unfold parseW at h
  split at h
  · split at h
    · have := tailW_len h
      simp only [List.length_cons]
      omega
    · cases h
  · cases h
theorem parse_long {ws : List Wd} (h : 13 < ws.length) : parseW ws = none := by
  cases e : parseW ws with
  | none => rfl
  | some n => exact absurd (parse_len e) (by omega)
end Go.Proofs.YtokdfdinnaghmaaDoor.Tx
