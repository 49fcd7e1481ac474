/- Walk: the groups of a number are decoded, in the program. -/
import Derived.Test.YtobkafkknbdacaaDoorRows
import Derived.Test.YtobkafkknbdacaaDoorCdW
namespace Go.Proofs.YtobkafkknbdacaaDoor
open Go.RowKit

/-- What decode gives. -/
def DecP (l : List Int) (e : Ending) : Prop := ∃ (u sz : Nat) (er : Int), e = .returned (.tuple #[.int .u64 (u : Int), .int .i64 (sz : Int), .int .i64 er]) ∧ (dec 0 0 l).1 = er ∧
  (er = 0 → dec 0 0 l = (0, u, l.drop sz) ∧ sz ≤ l.length ∧ u < 18446744073709551616)
theorem Byt.at {w : World} {A : Option Addr} {n c : Nat} {l : List Int} (h : Byt w A n c l) {k : Nat} (hk : k < n) : ∃ b off x, A = some ⟨b, off, none⟩ ∧ l[k]? = some x ∧ w.cell? ⟨b, off + k, none⟩ = some (.int .u8 x) ∧ b < w.heap.size := by
  have hl := h.len
  obtain ⟨h1, h2, h3⟩ := h.has
  rcases h3 with ⟨_, h4, _⟩ | ⟨a, rfl, h3⟩
  · omega
  · obtain ⟨b, off, rfl, hb, hc⟩ := row_cells (w := w) (x := a) (n := n) (f := fun i => .int .u8 (l.getD i 0)) (fun i hi => by
      have := h3 i (.int .u8 (l.getD i 0)) (by rw [C8_at (by omega)]; simp [List.getD, List.getElem?_eq_getElem (show i < l.length by omega)])
      exact this.2) (by omega)
    refine ⟨b, off, l[k], rfl, by simp, ?_, hb⟩
    rw [hc k hk]
    simp [List.getD, List.getElem?_eq_getElem (show k < l.length by omega)]
set_option maxHeartbeats 2000000 in
theorem decode_any {A : Option Addr} {n c : Nat} {l : List Int} {w : World} (hA : Byt w A n c l) :
    Calls Tryd.prog 62 #[.slice A n c] w fun e w' => DecP l e ∧ w = w' := by
  have hl := hA.len
  have hm : n ≤ 9223372036854775807 := by have := hA.cap; have := hA.max; unfold maxLen at *; omega
  have HM := Lib.hid hm
  have HA := Lib.hid hA; clear hA hm
  go_enter Tryd.func62, Tryd.ntmps62
  go_wp2
  go_loopw [2, 9] (fun u i wr => ∃ (k acc : Nat), i = .int .i64 (k : Int) ∧ u = .int .u64 (acc : Int) ∧ k ≤ n ∧ k ≤ 9 ∧ Hid (acc < 128 ^ k) ∧ Hid (dec k acc (l.drop k) = dec 0 0 l) ∧ wr = w) (fun _ i _ => n - (intOf i).toNat)
  case atStart => exact ⟨0, 0, rfl, rfl, by omega, by omega, by show _ < _; decide, rfl, rfl⟩
  case round =>
    obtain ⟨k, acc, rfl, rfl, hk, hk9, hacc, hd, rfl⟩ := hrel
    by_cases hlt : k < n
    · obtain ⟨b, off, x, rfl, hx, hcell, _⟩ := HA.out.at hlt
      have hr := HA.out.ran x (List.mem_of_getElem? hx)
      have h127 := and127 x hr.1 hr.2
      have hd' := hd.out
      rw [drop_at hx] at hd'
      have HD := Lib.hid hd'; clear hd'
      have hlt' : (k : Int) < (n : Int) := by omega
      have hdec : dec k acc (x :: l.drop (k + 1)) = dec 0 0 l := HD.out
      by_cases h9 : k = 9
      · subst h9
        by_cases hx1 : x = 1
        · subst hx1
          have hst := or_step (x := 1) (k := 9) (by omega) hacc.out (by omega) (fun _ => rfl)
          have hw : IntKind.u64.wrap ((1 : Int) % 128 * 2 ^ (7 * 9)) = 9223372036854775808 := by decide
          rw [hw] at hst
          obtain ⟨u, hu⟩ : ∃ u, acc + ((1 : Int) % 128).toNat * 128 ^ 9 = u := ⟨_, rfl⟩
          rw [hu] at hst
          have HS := Lib.hid hst
          have HF : Hid (dec 0 0 l = (0, u, l.drop 10)) := Lib.hid (by
              rw [← hdec, ← hu]; simp [dec])
          clear hdec hst hu hw
          go_wp2
          go_ret3
          exact ⟨⟨u, 10, 0, by rw [HS.out.1]; rfl, by rw [HF.out], fun _ => ⟨HF.out, by omega, HS.out.2⟩⟩, rfl⟩
        · have HF : Hid (dec 0 0 l = (1, 0, [])) := Lib.hid (by rw [← hdec]; simp [dec, hx1])
          have hx1' : (x != 1) = true := by simp [hx1]
          clear hdec
          go_wp2
          go_ret3
          exact ⟨⟨0, 0, 1, rfl, by rw [HF.out], by intro h; cases h⟩, rfl⟩
      · have hst := or_step hk9 hacc.out hr (fun h => absurd h h9)
        obtain ⟨u, hu⟩ : ∃ u, acc + (x % 128).toNat * 128 ^ k = u := ⟨_, rfl⟩
        rw [hu] at hst
        have hor := hst.1
        have HU := Lib.hid hst.2
        have HE := Lib.hid hu
        have h9' : ((k : Int) == 9) = false := by simp; omega
        clear hst hu
        by_cases h128 : (128 : Int) ≤ x
        · have HF : Hid (dec (k + 1) u (l.drop (k + 1)) = dec 0 0 l) := Lib.hid (by
            rw [← hdec, ← HE.out]; simp only [dec]; rw [if_neg (by omega), if_pos h128])
          have HP : Hid (u < 128 ^ (k + 1)) := Lib.hid (by
            have := hacc.out
            have h2 : (x % 128).toNat * 128 ^ k ≤ 127 * 128 ^ k := Nat.mul_le_mul_right _ (by omega)
            rw [← HE.out, Nat.pow_succ]; omega)
          clear hdec
          go_wp2
          go_roundw
          case rel => exact ⟨k + 1, u, by first | rfl | (simp; omega), rfl, by omega, by omega, HP.out, HF.out, by first | trivial | rfl⟩
          case measure => simp [intOf]; omega
        · by_cases h0 : 0 < k ∧ x = 0
          · obtain ⟨h0, rfl⟩ := h0
            have HF : Hid (dec 0 0 l = (1, 0, [])) := Lib.hid (by rw [← hdec]; simp [dec, h0])
            have h0' : (0 : Int) < (k : Int) := by omega
            clear hdec
            go_wp2
            go_ret3
            exact ⟨⟨0, 0, 1, rfl, by rw [HF.out], by intro h; cases h⟩, rfl⟩
          · have HF : Hid (dec 0 0 l = (0, u, l.drop (k + 1))) := Lib.hid (by
              rw [← hdec, ← HE.out]; simp only [dec]; rw [if_neg (by omega), if_neg h128])
            clear hdec
            by_cases hk0 : (0 : Int) < (k : Int)
            · have hx0 : (x == 0) = false := by simp; omega
              go_wp2
              go_ret3
              exact ⟨⟨u, k + 1, 0, by first | rfl | simp, by rw [HF.out], fun _ => ⟨HF.out, by omega, HU.out⟩⟩, rfl⟩
            · go_wp2
              go_ret3
              exact ⟨⟨u, k + 1, 0, by first | rfl | simp, by rw [HF.out], fun _ => ⟨HF.out, by omega, HU.out⟩⟩, rfl⟩
    · obtain rfl : k = n := by omega
      have HF : Hid (dec 0 0 l = (2, 0, [])) := Lib.hid (by rw [← hd.out, List.drop_eq_nil_of_le (by omega)]; rfl)
      go_wp2
      go_ret3
      exact ⟨⟨0, 0, 2, rfl, by rw [HF.out], by intro h; cases h⟩, rfl⟩
end Go.Proofs.YtobkafkknbdacaaDoor
