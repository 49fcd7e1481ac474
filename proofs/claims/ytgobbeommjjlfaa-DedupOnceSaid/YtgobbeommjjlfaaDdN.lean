/- Walks: slices.Replace whole; the program's insert. -/
import Derived.Test.YtgobbeommjjlfaaDdR
import Derived.Test.YtgobbeommjjlfaaDdH
namespace Go.Proofs.Ytgobbeommjjlfaa
open Go.RowKit

theorem replace_any (base : Nat) (v : Value) (n i j vb : Nat) (l : List Rg) (r : Rg) (w : World) (hown : w.ownsRow base 44 3 v n (rcl l)) (hn : l.length = n) (hij : i ≤ j) (hjn : j ≤ n) (h6 : n ≤ 1000000) (hB : Blk w vb 44 (rgv r)) (hvb : v.ownBlock ≠ some vb) (hbase : base ≤ w.heap.size) :
    Calls Try.prog 40 #[v, .int .i64 i, .int .i64 j, .slice (some ⟨vb, 0, none⟩) 1 1] w (InsOut base v.ownBlock (i + 1 + (n - j)) (l.take i ++ r :: l.drop j) w) := by
  rcases hown.2 with ⟨rfl, h0⟩ | ⟨g, cap, cur, rfl, hbg, hg, hnc, hcm, hcs, htake⟩
  · subst h0
    obtain rfl : l = [] := by simpa using hn
    obtain rfl : i = 0 := by omega
    obtain rfl : j = 0 := by omega
    exact replace_eq base none 0 0 0 vb w _ _ _ (Nat.le_refl _) (Nat.le_refl _) h6 (insert_end base _ 0 vb [] r w hown rfl h6 hB hbase)
  · have hW : Whole w g 44 cur.toList := by show _ = _; rw [hg]
    have hvg : vb ≠ g := fun e => hvb (by rw [e]; rfl)
    have hl3 : cur.toList.length = cap * 3 := by simpa using hcs
    by_cases h1 : i = j
    · subst h1
      have e : i + 1 + (n - i) = n + 1 := by omega
      rw [e]
      refine replace_eq base _ n cap i vb w _ _ _ hjn hnc h6 ?_
      by_cases h2 : i = n
      · subst h2
        have := insert_end base _ i vb l r w hown hn h6 hB hbase
        rw [List.take_of_length_le (by omega), List.drop_of_length_le (by omega)]
        exact this
      · by_cases h3 : cap = n
        · exact insert_grow base g cap n i vb cur.toList l r w hW hbase (by omega) h3 hcm hl3 hn htake h6 hB hvg
        · exact insert_room base g cap n i vb cur.toList l r w hW hbg (by omega) (by omega) hcm hl3 hn htake h6 hB hvg
    · by_cases h2 : j = n
      · subst h2
        have := replace_end base g cap j i vb cur.toList l r w hW hbg (by omega) hnc hcm hl3 hn htake h6 hB
        rw [List.drop_of_length_le (by omega), Nat.sub_self]
        exact this
      · exact replace_mid base g cap n i j vb cur.toList l r w hW hbg (by omega) (by omega) hnc hcm hl3 hn htake h6 hB hvg _ rfl
theorem grown_below {B : Nat} {a b : World} {row : Option Nat} (h : Below a.heap.size a b) : a.grownBy b row := ⟨h.os, h.tape, h.output, h.size, fun k hk _ => h.block k hk⟩
theorem own_keep {w w' : World} {base e size n : Nat} {v : Value} {xs : List Value} (h : w.ownsRow base e size v n xs) (hb : Below w.heap.size w w') : w'.ownsRow base e size v n xs :=
  h.kept (row := none) ⟨hb.os, hb.tape, hb.output, hb.size, fun k hk _ => hb.block k hk⟩ (by cases v.ownBlock <;> simp)
end Go.Proofs.Ytgobbeommjjlfaa
