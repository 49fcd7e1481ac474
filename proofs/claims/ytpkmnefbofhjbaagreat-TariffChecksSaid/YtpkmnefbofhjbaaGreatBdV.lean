/- Lists of slots and bands in memory; walks: the slots of a band are checked, in the program and in the reference. -/
import Derived.Test.YtpkmnefbofhjbaaGreatNmR
namespace Go.Proofs.YtpkmnefbofhjbaaGreat
open Go.RowKit

def sl0 : Sl := (0, 0, 0)
def bd0 : Bd := (ByteArray.empty, [])
/-- A slice that reads as a list of slots; as a list of bands. -/
def SlR (w : World) (A : Option Addr) (l : List Sl) : Prop :=
  ∀ k, k < l.length → ∃ b off, A = some ⟨b, off, none⟩ ∧ b < w.heap.size ∧ w.cell? ⟨b, off + k * 3, none⟩ = some (.int .i64 (l.getD k sl0).1) ∧ w.cell? ⟨b, off + k * 3 + 1, none⟩ = some (.int .i64 (l.getD k sl0).2.1) ∧ w.cell? ⟨b, off + k * 3 + 2, none⟩ = some (.int .i64 (l.getD k sl0).2.2)
theorem SlR.below {w w' : World} {A : Option Addr} {l : List Sl} (h : SlR w A l) (hb : Below w.heap.size w w') : SlR w' A l := fun k hk => by
  obtain ⟨b, off, e, h1, h2, h3, h4⟩ := h k hk
  exact ⟨b, off, e, Nat.lt_of_lt_of_le h1 hb.size, (hb.cell (p := ⟨b, off + k * 3, none⟩) h1).trans h2, (hb.cell (p := ⟨b, off + k * 3 + 1, none⟩) h1).trans h3, (hb.cell (p := ⟨b, off + k * 3 + 2, none⟩) h1).trans h4⟩
theorem SlR.nil {w : World} {A : Option Addr} : SlR w A [] := fun k hk => absurd hk (Nat.not_lt_zero k)
def BdR (w : World) (A : Option Addr) (l : List Bd) : Prop :=
  ∀ k, k < l.length → ∃ b off S c, A = some ⟨b, off, none⟩ ∧ b < w.heap.size ∧ w.cell? ⟨b, off + k * 2, none⟩ = some (.string (l.getD k bd0).1) ∧ w.cell? ⟨b, off + k * 2 + 1, none⟩ = some (.slice S (l.getD k bd0).2.length c) ∧
    (l.getD k bd0).2.length ≤ c ∧ c ≤ maxLen ∧ SlR w S (l.getD k bd0).2 ∧ (l.getD k bd0).1.size ≤ maxLen
theorem BdR.below {w w' : World} {A : Option Addr} {l : List Bd} (h : BdR w A l) (hb : Below w.heap.size w w') : BdR w' A l := fun k hk => by
  obtain ⟨b, off, S, c, e, h1, h2, h3, h4, h5, h6, h7⟩ := h k hk
  exact ⟨b, off, S, c, e, Nat.lt_of_lt_of_le h1 hb.size, (hb.cell (p := ⟨b, off + k * 2, none⟩) h1).trans h2, (hb.cell (p := ⟨b, off + k * 2 + 1, none⟩) h1).trans h3, h4, h5, h6.below hb, h7⟩
theorem BdR.nil {w : World} {A : Option Addr} : BdR w A [] := fun k hk => absurd hk (Nat.not_lt_zero k)
theorem slot_cases (d f t : Int) : (okS (d, f, t) = true ∧ decide (d < 1) = false ∧ decide (255 < d) = false ∧ decide (f < 0) = false ∧ decide (t ≤ f) = false ∧ decide (1440 < t) = false) ∨
    (okS (d, f, t) = false ∧ (decide (d < 1) = true ∨ (decide (d < 1) = false ∧ decide (255 < d) = true) ∨ (decide (d < 1) = false ∧ decide (255 < d) = false ∧ decide (f < 0) = true) ∨
      (decide (d < 1) = false ∧ decide (255 < d) = false ∧ decide (f < 0) = false ∧ decide (t ≤ f) = true) ∨ (decide (d < 1) = false ∧ decide (255 < d) = false ∧ decide (f < 0) = false ∧ decide (t ≤ f) = false ∧ decide (1440 < t) = true))) := by
  unfold okS
  simp
  omega
theorem okS_all {l : List Sl} (h : ∀ j, j < l.length → okS (l.getD j sl0) = true) : l.all okS = true := by
  rw [List.all_eq_true]
  intro x hx
  obtain ⟨j, hj, rfl⟩ := List.mem_iff_getElem.1 hx
  have := h j hj
  simpa [List.getD, List.getElem?_eq_getElem hj] using this
theorem okS_not {l : List Sl} {j : Nat} (hj : j < l.length) (h : okS (l.getD j sl0) = false) : l.all okS = false := by
  rw [List.all_eq_false]
  refine ⟨l[j], List.getElem_mem _, ?_⟩
  simpa [List.getD, List.getElem?_eq_getElem hj] using h
theorem ckS_len {l : List Sl} {b : Bool} (h1 : b = l.isEmpty) (h2 : 64 < l.length) : ckS l b = 5 := by unfold ckS; rw [h1]; simp [h2]
theorem ckS_no {l : List Sl} {b : Bool} (h1 : b ≠ l.isEmpty) : ckS l b = 8 := by unfold ckS; rw [if_pos (by simpa using h1)]
theorem ckS_is {l : List Sl} {b v : Bool} (h1 : b = l.isEmpty) (h2 : l.length ≤ 64) (h : l.all okS = v) : ckS l b = if v then 0 else 6 := by unfold ckS; rw [h1, h]; simp; omega
theorem ret_i64 {a b : Int} (h : a = b) : Ending.returned (.int .i64 a) = .returned (.int .i64 b) := by rw [h]
theorem is_empty {l : List Sl} {n : Nat} (h : l.length = n) : l.isEmpty = decide (n = 0) := by subst h; cases l <;> simp
set_option maxHeartbeats 4000000 in
theorem checkSlots_any (A : Option Addr) (n c : Nat) (l : List Sl) (last : Bool) (w : World) (hA : SlR w A l) (hn : l.length = n) (hc : n ≤ c) (hm : c ≤ maxLen) :
    Calls Tryz.prog 74 #[.slice A n c, .bool last] w fun e w' => e = .returned (.int .i64 (ckS l last)) ∧ Below w.heap.size w w' := by
  unfold maxLen at hm
  have hE := is_empty hn
  by_cases hl : last = l.isEmpty
  · have hl2 := hl
    rw [hE] at hl2
    have hq : (last == ((n : Int) == 0)) = true := by rw [hl2]; by_cases h : n = 0 <;> simp [h]
    by_cases h64 : 64 < n
    · have hq1 : ¬ n = 0 := by omega
      obtain rfl : last = false := by simpa [hq1] using hl2
      have d1 : decide (64 < (n : Int)) = true := decide_eq_true (by omega)
      rw [ckS_len hl (by omega)]
      clear hl hl2 hE h64
      go_enter Tryz.func74, Tryz.ntmps74
      go_wp2
      go_ret
      exact ⟨rfl, Below.refl _ _⟩
    · have d1 : decide (64 < (n : Int)) = false := decide_eq_false (by omega)
      have HV := Lib.hid (fun v h => ckS_is (v := v) hl (by omega) h)
      have HA := Lib.hid hA; have HN := Lib.hid hn
      clear hl hl2 hE hA hn
      go_enter Tryz.func74, Tryz.ntmps74
      go_wp2_with fail
      go_loopw [17] (fun iv wr => ∃ k : Nat, iv = .int .i64 k ∧ k ≤ n ∧ Below w.heap.size w wr ∧ Hid (∀ j, j < k → okS (l.getD j sl0) = true)) (fun iv _ => n - (intOf iv).toNat)
      case atStart => exact ⟨0, rfl, by omega, Below.refl _ _, Lib.hid fun j h => absurd h (Nat.not_lt_zero j)⟩
      case round =>
        obtain ⟨k, rfl, hk, hb, HO⟩ := hrel
        have hs := hb.size
        by_cases hlt : k < n
        · obtain ⟨bk, off, rfl, hbl, g0, g1, g2⟩ := HA.out k (by rw [HN.out]; exact hlt)
          have e0 := (hb.cell (p := ⟨bk, off + k * 3, none⟩) hbl).trans g0
          have e1 := (hb.cell (p := ⟨bk, off + k * 3 + 1, none⟩) hbl).trans g1
          have e2 := (hb.cell (p := ⟨bk, off + k * 3 + 2, none⟩) hbl).trans g2
          have hlt' : (k : Int) < (n : Int) := by omega
          obtain ⟨⟨d, f, t⟩, hp⟩ : ∃ p, l.getD k sl0 = p := ⟨_, rfl⟩
          rw [hp] at e0 e1 e2
          simp only at e0 e1 e2
          clear g0 g1 g2
          rcases slot_cases d f t with ⟨ho, c1, c2, c3, c4, c5⟩ | ⟨ho, hr⟩
          · have HO2 : Hid (∀ j, j < k + 1 → okS (l.getD j sl0) = true) := Lib.hid fun j h => by
              rcases Nat.lt_or_ge j k with h | h
              · exact HO.out j h
              · obtain rfl : j = k := by omega
                rw [hp]; exact ho
            clear hp ho HO
            go_wp2_with fail
            go_roundw
            case rel => exact ⟨k + 1, by go_num, by omega, hb.alloc hs _, HO2⟩
            case measure => simp [intOf]; omega
          · have HR := Lib.hid (HV.out _ (okS_not (by rw [HN.out]; exact hlt) (by rw [hp]; exact ho)))
            clear hp ho HO
            rcases hr with c1 | ⟨c1, c2⟩ | ⟨c1, c2, c3⟩ | ⟨c1, c2, c3, c4⟩ | ⟨c1, c2, c3, c4, c5⟩
            all_goals
              go_wp2_with fail
              go_ret
              exact ⟨ret_i64 HR.out.symm, hb.alloc hs _⟩
        · obtain rfl : k = n := by omega
          have HR := Lib.hid (HV.out _ (okS_all fun j hj => HO.out j (by rwa [HN.out] at hj)))
          clear HO
          go_wp2_with fail
          go_ret
          exact ⟨ret_i64 HR.out.symm, hb⟩
  · rw [ckS_no hl]
    rw [hE] at hl
    have hq : (last == ((n : Int) == 0)) = false := by by_cases h : n = 0 <;> simp_all
    clear hl hE
    go_enter Tryz.func74, Tryz.ntmps74
    go_wp2_with fail
    go_ret
    exact ⟨rfl, Below.refl _ _⟩
end Go.Proofs.YtpkmnefbofhjbaaGreat
