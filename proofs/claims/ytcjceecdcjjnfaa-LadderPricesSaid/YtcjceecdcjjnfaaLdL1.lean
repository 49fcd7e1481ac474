/- Walks: the laws' awake; the laws on prices. -/
import Derived.Test.YtcjceecdcjjnfaaLdU
namespace Go.Proofs.Ytcjceecdcjjnfaa.Ck
open Go Go.Lib Go.RowKit Go.Proofs.Ytcjceecdcjjnfaa

theorem litc (w : World) (cs : Array Value) (t : TypeId) (i : Nat) : (w.alloc (.cells cs t)).cell? ⟨w.heap.size, i, none⟩ = cs[i]? := (Blk.new w t cs).cell i
theorem SpR.two (w : World) (a b : Sp) : SpR (w.alloc (.cells #[.int .i64 a.up, .int .i64 a.qu, .int .i64 a.pr, .int .i64 b.up, .int .i64 b.qu, .int .i64 b.pr] 37)) (some ⟨w.heap.size, 0, none⟩) [a, b] := fun k hk => by
  match k, hk with
  | 0, _ => exact ⟨_, 0, rfl, by simp, litc _ _ _ _, litc _ _ _ _, litc _ _ _ _⟩
  | 1, _ => exact ⟨_, 0, rfl, by simp, litc _ _ _ _, litc _ _ _ _, litc _ _ _ _⟩
theorem SpR.one (w : World) (a : Sp) : SpR (w.alloc (.cells #[.int .i64 a.up, .int .i64 a.qu, .int .i64 a.pr] 37)) (some ⟨w.heap.size, 0, none⟩) [a] := fun k hk => by
  match k, hk with
  | 0, _ => exact ⟨_, 0, rfl, by simp, litc _ _ _ _, litc _ _ _ _, litc _ _ _ _⟩
def lad : List Sp := [⟨60, 60, 1000⟩, ⟨0, 1, 20⟩]
theorem lad1 : pcV lad 61 = 1020 ∧ pcE lad 61 = 0 := by decide +kernel
theorem lad2 : pcV lad 100 = 1800 ∧ pcE lad 100 = 0 := by decide +kernel
theorem lad3 : btV lad 50 20 = 200 ∧ btE lad 50 20 = 0 := by decide +kernel
theorem lad4 : IsU lad 0 1019 60 := .inr (by decide +kernel)
theorem lad5 : IsU lad 50 0 10 := .inr (by decide +kernel)
theorem lad6 : btV lad 0 1 = 1000 := by decide +kernel
theorem lad7 : btV lad 60 1 = 20 := by decide +kernel
end Go.Proofs.Ytcjceecdcjjnfaa.Ck
namespace Go.Proofs.Ytcjceecdcjjnfaa
open Go.RowKit Ck Go.Lib

end Go.Proofs.Ytcjceecdcjjnfaa
