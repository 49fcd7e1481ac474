/- Walks: the reference's own and result, and the program's signature. -/
import Derived.Test.YtbfficialcnedaaCkV
import Derived.RegionTactic
namespace Go.Proofs.Ytbfficialcnedaa.Ck
open Go Go.Lib Go.RowKit Go.Proofs.Ytbfficialcnedaa

theorem ir_cell {w : World} {B : Option Addr} {l : List Int} (h : IR w B l) {k : Nat} (hk : k < l.length) : ∃ b off, B = some ⟨b, off, none⟩ ∧ b < w.heap.size ∧ w.cell? ⟨b, off + k, none⟩ = some (.int .i64 (l.getD k 0)) := h k hk
theorem ir_two {w : World} {B : Option Addr} {x y : Int} (h : IR w B [x, y]) : ∃ b off, B = some ⟨b, off, none⟩ ∧ b < w.heap.size ∧ w.cell? ⟨b, off, none⟩ = some (.int .i64 x) ∧ w.cell? ⟨b, off + 1, none⟩ = some (.int .i64 y) := by
  obtain ⟨b, off, e, h1, h2⟩ := h 0 (by decide : 0 < 2)
  obtain ⟨b', off', e', h1', h2'⟩ := h 1 (by decide : 1 < 2)
  rw [e] at e'
  cases e'
  exact ⟨b, off, e, h1, h2, h2'⟩
theorem ir_one {w : World} {B : Option Addr} {x : Int} (h : IR w B [x]) : ∃ b off, B = some ⟨b, off, none⟩ ∧ b < w.heap.size ∧ w.cell? ⟨b, off, none⟩ = some (.int .i64 x) := by
  obtain ⟨b, off, e, h1, h2⟩ := h 0 (by decide : 0 < 1)
  exact ⟨b, off, e, h1, h2⟩
theorem ops16 {op : Int} (h : arity op = 2) : op = 5 ∨ op = 6 ∨ op = 7 ∨ op = 8 ∨ op = 9 ∨ op = 10 ∨ op = 11 ∨ op = 12 ∨ op = 13 ∨ op = 14 ∨ op = 15 := by
  unfold arity at h
  split at h
  · exact absurd h (by decide)
  · split at h
    · exact absurd h (by decide)
    · split at h
      · omega
      · exact absurd h (by decide)
set_option maxRecDepth 100000 in
set_option maxHeartbeats 16000000 in
theorem signature_any (op num : Int) (tx : ByteArray) (A : Option Addr) (n c : Nat) (B : Option Addr) (m c2 : Nat) (l : List Int) (w : World) (hm : l.length = m) (ha : (l.length : Int) = arity op) (hB : IR w B l) (hc : m ≤ c2) :
    Calls Try.prog 97 #[.agg #[.int .i64 op, .int .i64 num, .string tx, .slice A n c], .slice B m c2] w fun e w' => e = .returned (.tuple #[.int .i64 (sigE op tx l).1, .int .i64 (sigE op tx l).2]) ∧ Below w.heap.size w w' := by
  have HB := Lib.hid (below_one w (.cells #[.int .i64 op, .int .i64 num, .string tx, .slice A n c] 58))
  obtain ⟨c0, c1, c2, c3⟩ := four (Blk.new w 58 #[.int .i64 op, .int .i64 num, .string tx, .slice A n c])
  have HSO := Lib.hid (fun W => sort_any tx W)
  rcases len_cases ha with ⟨h1, h3, rfl⟩ | ⟨rfl, x, rfl⟩ | ⟨h1, h2, x, y, rfl⟩
  · have : op = 1 ∨ op = 2 ∨ op = 3 := by omega
    clear h1 h3 ha
    rcases this with rfl | rfl | rfl
    all_goals
      go_enter Try.func97, Try.ntmps97
      go_wp2_with (go_at_call 101; (with_reducible refine (HSO.out _).mono ?_); rintro e w1 ⟨rfl, rfl⟩)
      go_ret2
      exact ⟨rfl, HB.out⟩
  · go_enter Try.func97, Try.ntmps97
    go_wp2_with fail
    go_ret2
    exact ⟨rfl, HB.out⟩
  · obtain rfl : m = 2 := by rw [← hm]; rfl
    obtain ⟨b, off, rfl, hbl, g0, g1⟩ := ir_two hB
    have e0 := ((below_one w (.cells #[.int .i64 op, .int .i64 num, .string tx, .slice A n c] 58)).cell (p := ⟨b, off, none⟩) hbl).trans g0
    obtain ⟨v, hv⟩ : ∃ v, (x == 2) = v := ⟨_, rfl⟩
    have HV : Hid (sigE 7 tx [x, y] = (if v = true then (2, 3) else (1, 3)) ∧ sigE 8 tx [x, y] = (if v = true then (2, 3) else (1, 3))) := Lib.hid (by
      have e1 : sigE 7 tx [x, y] = if x = 2 then (2, 3) else (1, 3) := rfl
      have e2 : sigE 8 tx [x, y] = if x = 2 then (2, 3) else (1, 3) := rfl
      rw [e1, e2, ← hv]; simp)
    have hop := ops16 (op := op) (by rw [← ha]; rfl)
    clear h1 h2 ha hm hB g0 g1
    rcases hop with rfl | rfl | rfl | rfl | rfl | rfl | rfl | rfl | rfl | rfl | rfl
    all_goals first | skip
    case' _ => skip
    all_goals cases v
    all_goals
      go_enter Try.func97, Try.ntmps97
      go_wp2_with fail
      go_ret2
      first | exact ⟨rfl, HB.out⟩ | exact ⟨by rw [HV.out.1] <;> rfl, HB.out⟩ | exact ⟨by rw [HV.out.2] <;> rfl, HB.out⟩
end Go.Proofs.Ytbfficialcnedaa.Ck
