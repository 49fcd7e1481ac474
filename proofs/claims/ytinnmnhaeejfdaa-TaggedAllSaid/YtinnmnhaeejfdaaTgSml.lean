/- Walks: the small functions: within, flags, shortest. -/
import Derived.Test.YtinnmnhaeejfdaaTgV
namespace Go.Proofs.Ytinnmnhaeejfdaa
open Go.RowKit

theorem within_any (n a b : Int) (w : World) : Calls Try.prog 37 #[.int .i64 n, .int .i64 a, .int .i64 b] w fun e w' => e = .returned (.bool (decide (a ≤ n) && decide (n ≤ b))) ∧ w = w' := by
  go_enter Try.func37, Try.ntmps37
  by_cases h : a ≤ n
  · by_cases h2 : n ≤ b
    · go_wp2
      go_ret
      exact ⟨by simp [h, h2], rfl⟩
    · go_wp2
      go_ret
      exact ⟨by simp [h, h2], rfl⟩
  · go_wp2
    go_ret
    exact ⟨by rw [decide_eq_false (by omega : ¬ a ≤ n), Bool.false_and]; rfl, rfl⟩

/-- A number in as few bytes as possible, the highest first. -/
def shE (n : Nat) : List Int := if h : n = 0 then [] else shE (n / 256) ++ [((n % 256 : Nat) : Int)]
termination_by n
decreasing_by omega
theorem shE_zero : shE 0 = [] := by rw [shE]; rfl
theorem shE_pos {n : Nat} (h : n ≠ 0) : shE n = shE (n / 256) ++ [((n % 256 : Nat) : Int)] := by rw [shE]; simp [h]
theorem shE_ran : ∀ (n : Nat), ∀ x ∈ shE n, 0 ≤ x ∧ x ≤ 255 := by
  intro n
  induction n using Nat.strongRecOn with
  | ind n ih =>
    intro x hx
    by_cases h : n = 0
    · subst h; rw [shE_zero] at hx; cases hx
    · rw [shE_pos h] at hx
      rcases List.mem_append.1 hx with h1 | h1
      · exact ih _ (by omega) x h1
      · rw [List.mem_singleton] at h1; subst h1; omega
theorem shE_more {n s : Nat} : 0 < n / 256 ^ s ↔ s < (shE n).length := by
  induction n using Nat.strongRecOn generalizing s with
  | ind n ih =>
    by_cases h : n = 0
    · subst h; rw [shE_zero]; simp
    · rw [shE_pos h, List.length_append]
      cases s with
      | zero => simp; omega
      | succ s =>
        rw [Nat.pow_succ, Nat.mul_comm, ← Nat.div_div_eq_div_mul, ih (n / 256) (by omega)]
        simp
theorem shE_at {n : Nat} : ∀ {i : Nat}, i < (shE n).length → (shE n)[i]? = some ((n / 256 ^ ((shE n).length - 1 - i) % 256 : Nat) : Int) := by
  induction n using Nat.strongRecOn with
  | ind n ih =>
    intro i hi
    by_cases h : n = 0
    · subst h; rw [shE_zero] at hi; simp at hi
    · rw [shE_pos h] at hi ⊢
      rw [List.length_append] at hi ⊢
      simp only [List.length_cons, List.length_nil] at hi ⊢
      rcases Nat.lt_or_ge i (shE (n / 256)).length with h1 | h1
      · rw [List.getElem?_append_left h1, ih _ (by omega) h1, Nat.div_div_eq_div_mul, ← Nat.pow_succ']
        congr 3
        congr 2
        omega
      · obtain rfl : i = (shE (n / 256)).length := by omega
        rw [List.getElem?_append_right (Nat.le_refl _)]
        simp
theorem shE_len {n : Nat} (hn : n < 9223372036854775808) : (shE n).length ≤ 8 := by
  rcases Nat.lt_or_ge 8 (shE n).length with h | h
  · have h1 := shE_more.2 h
    have h2 : n / 256 ^ 8 = 0 := Nat.div_eq_of_lt (by omega)
    omega
  · exact h
theorem shr_is (n k : Nat) : (n : Int) / 2 ^ (8 * k) = ((n / 256 ^ k : Nat) : Int) := by
  rw [show (2 : Int) ^ (8 * k) = ((2 ^ (8 * k) : Nat) : Int) by simp, ← Int.natCast_ediv, Nat.pow_mul]
/-- A row that is filled so far. -/
def shRow (l : List Int) (j : Nat) : List Value := C8 (l.take j) ++ List.replicate (l.length - j) (.int .u8 0)
theorem shRow_zero (l : List Int) : shRow l 0 = List.replicate l.length (.int .u8 0) := by simp [shRow, C8]
theorem shRow_all (l : List Int) : shRow l l.length = C8 l := by simp [shRow]
theorem shRow_at {l : List Int} {j : Nat} (h : j < l.length) : (shRow l j)[j]? = some (.int .u8 0) := by
  unfold shRow
  have e : (C8 (l.take j)).length = j := by rw [C8_len, List.length_take]; omega
  rw [List.getElem?_append_right (by omega), e, Nat.sub_self]
  obtain ⟨m, hm⟩ : ∃ m, l.length - j = m + 1 := ⟨l.length - j - 1, by omega⟩
  rw [hm]; rfl
theorem shRow_set {l : List Int} {j : Nat} {x : Int} (h : l[j]? = some x) : (shRow l j).set j (.int .u8 x) = shRow l (j + 1) := by
  obtain ⟨hj, rfl⟩ := List.getElem?_eq_some_iff.1 h
  unfold shRow
  have e : (C8 (l.take j)).length = j := by rw [C8_len, List.length_take]; omega
  obtain ⟨m, hm⟩ : ∃ m, l.length - j = m + 1 := ⟨l.length - j - 1, by omega⟩
  rw [hm, show l.length - (j + 1) = m by omega, List.set_append, if_neg (by omega), e, Nat.sub_self, List.take_succ_eq_append_getElem hj, C8_app, List.append_assoc]
  rfl
theorem made_row (m : Nat) : (madeCells (Value.int IntKind.u8 0).cells (m * 1)).toList = List.replicate m (Value.int IntKind.u8 0) := by
  rw [Nat.mul_one]
  apply List.ext_getElem
  · simp [madeCells]
  · intro i h1 h2
    simp [madeCells, Value.cells, Nat.mod_one]
set_option maxRecDepth 100000 in
set_option maxHeartbeats 4000000 in
theorem shortest_any (n : Nat) (hn : n < 9223372036854775808) (w : World) : Calls Try.prog 41 #[.int .i64 n] w fun e w' => ∃ v, e = .returned v ∧ Own w' w.heap.size v (shE n) ∧ Below w.heap.size w w' := by
  obtain ⟨i0, hi0, hz0, hz1, hz2⟩ := info_parts byteInfo
  have hl8 := shE_len hn
  obtain ⟨N, hN⟩ : ∃ N, (shE n).length = N := ⟨_, rfl⟩
  rw [hN] at hl8
  have HN := Lib.hid hN
  clear hN hn
  go_enter Try.func41, Try.ntmps41
  go_wp2
  go_loopw [3] (fun s wr => ∃ k : Nat, s = .int .i64 (k : Int) ∧ k ≤ N ∧ wr = w) (fun s _ => N - (intOf s).toNat)
  case atStart => exact ⟨0, rfl, by omega, rfl⟩
  case round =>
    obtain ⟨k, rfl, hk, rfl⟩ := hrel
    have hk8 : (k : Int) ≤ 8 := by omega
    by_cases hlt : k < N
    · have hq : 0 < n / 256 ^ k := shE_more.2 (by rw [HN.out]; exact hlt)
      have hc : (0 : Int) < (n : Int) / 2 ^ (8 * k) := by rw [shr_is]; omega
      clear hq
      go_wp2
      go_roundw
      case rel => exact ⟨k + 1, by first | rfl | (simp; omega), by omega, by first | trivial | rfl⟩
      case measure => simp [intOf]; omega
    · have hq : ¬ 0 < n / 256 ^ k := fun h => hlt (by have := shE_more.1 h; rw [HN.out] at this; exact this)
      have hc : ¬ (0 : Int) < (n : Int) / 2 ^ (8 * k) := by rw [shr_is]; omega
      obtain rfl : k = N := by omega
      clear hq hlt hk
      go_wp2_with (at_make; refine wpList_make_full _ rfl _ _ 25 rfl wr.heap.size 5 i0 (.int .u8 0) 1 Try.underlying25 hi0 hz0 hz1 _ _ _ _ k rfl rfl (by omega) (by omega) (by rw [hz2]; omega) (by unfold maxLen; omega) (Nat.le_refl _) ?_; intro w1 hown0 hg0)
      have hmade : (madeCells (Value.int IntKind.u8 0).cells (k * 1)).toList = shRow (shE n) 0 := by rw [shRow_zero, HN.out, made_row]
      rw [hmade] at hown0
      clear hmade hc
      go_loopw [17] (fun i wq => ∃ j : Nat, j ≤ k ∧ i = .int .i64 j ∧ wq.ownsRow wr.heap.size 5 1 (.slice (some ⟨wr.heap.size, 0, none⟩) k k) k (shRow (shE n) j) ∧ Below wr.heap.size wr wq) (fun i _ => k - (intOf i).toNat)
      case atStart => exact ⟨0, by omega, rfl, hown0, (Below.refl _ _).grown hg0 (Nat.le_refl _) (fun _ h => by cases h)⟩
      case round =>
        rename_i wq
        obtain ⟨j, hj, rfl, hown, hb⟩ := hrel
        have hsz := hb.size
        by_cases hlt : j < k
        · have hcc := (World.ownsRow.cellAt hown j (by omega)).trans (shRow_at (by rw [HN.out]; exact hlt))
          have hf := World.ownsRow.frozenAt hown j
          obtain ⟨J, hJ⟩ : ∃ J : Nat, (k : Int) - 1 - (j : Int) = (J : Int) := ⟨k - 1 - j, by omega⟩
          have hJ8 : (J : Int) ≤ 7 := by omega
          have hlt2 : (j : Int) < (k : Int) := by omega
          have hsh := shr_is n J
          have hat : (shE n)[j]? = some (((n / 256 ^ J : Nat) : Int) % 256) := by
            have := shE_at (n := n) (i := j) (by rw [HN.out]; exact hlt)
            rw [HN.out, show k - 1 - j = J by omega] at this
            rw [this]; simp
          obtain ⟨X, hX⟩ : ∃ X : Nat, n / 256 ^ J = X := ⟨_, rfl⟩
          rw [hX] at hsh hat
          have HAT := Lib.hid hat
          clear hat hX hown0 hg0
          go_wp2
          go_roundw
          case rel =>
            refine ⟨j + 1, by omega, by go_num, ?_, ?_⟩
            · have := (World.ownsRow.stored hown j (.int .u8 ((X : Int) % 256))).1
              rw [shRow_set HAT.out] at this
              exact this
            · exact hb.setCell (Nat.le_refl _) _
          case measure => simp [intOf]; omega
        · obtain rfl : j = k := by omega
          have h9 : shRow (shE n) j = C8 (shE n) := by rw [← HN.out, shRow_all]
          rw [h9] at hown
          have HOW := Lib.hid hown
          clear hown h9 hown0 hg0
          go_wp2
          go_ret
          exact ⟨_, rfl, ⟨by rw [HN.out]; exact HOW.out, shE_ran n⟩, hb⟩
end Go.Proofs.Ytinnmnhaeejfdaa
