/- Walk: Number of the reference. -/
import Derived.Test.YtlcjpnagjiemiaaRows
import Derived.Test.YtlcjpnagjiemiaaCdU
namespace Go.Proofs.Ytlcjpnagjiemiaa
open Go.RowKit

/-- What a number's reader gives. -/
def NumP (l : List Int) (w : World) (e : Ending) (w' : World) : Prop :=
  ∃ v, e = .returned (.tuple #[.int .i64 (numR (l, 0)).1, v, .int .i64 (numR (l, 0)).2.2]) ∧ Own w' w.heap.size v (numR (l, 0)).2.1 ∧ Below w.heap.size w w'
theorem NumP.no {l : List Int} {w : World} {e : Ending} (er : Int) (h : dec 0 0 l = (er, 0, [])) (her : er ≠ 0) (he : e = .returned (.tuple #[.int .i64 0, .slice none 0 0, .int .i64 er])) : NumP l w e w := by
  have hn : numR (l, 0) = (0, ([], er)) := by simp [numR, h, her]
  exact ⟨_, by rw [hn]; exact he, by rw [hn]; exact own_none _ _, Below.refl _ _⟩
theorem NumP.yes {l R : List Int} {w : World} {e : Ending} {w' : World} {u : Nat} {v : Value} (h : dec 0 0 l = (0, u, R)) (he : e = .returned (.tuple #[.int .i64 (unz u), v, .int .i64 0])) (ho : Own w' w.heap.size v R) (hb : Below w.heap.size w w') : NumP l w e w' := by
  have hn : numR (l, 0) = (unz u, (R, 0)) := by simp [numR, h]
  exact ⟨_, by rw [hn]; exact he, by rw [hn]; exact ho, hb⟩
theorem mul_step {acc k U : Nat} {x : Int} (hU : U = 128 ^ k) (hk : k ≤ 9) (ha : acc < 128 ^ k) (hx : 0 ≤ x ∧ x ≤ 255) (h9 : k = 9 → x = 1) :
    IntKind.u64.wrap ((acc : Int) + IntKind.u64.wrap (x % 128 * (U : Int))) = ((acc + (x % 128).toNat * 128 ^ k : Nat) : Int) ∧ acc + (x % 128).toNat * 128 ^ k < 18446744073709551616 := by
  have h := (or_step hk ha hx h9).2
  have e2 : x % 128 * (U : Int) = (((x % 128).toNat * 128 ^ k : Nat) : Int) := by
    rw [Int.natCast_mul, hU]; congr 1; omega
  rw [e2, wrap_u64, wrap_u64]
  refine ⟨?_, h⟩
  omega
theorem odd_val (u : Nat) (hu : u < 18446744073709551616) (h : u % 2 = 1) : wrap64 (wrap64 (-wrap64 (IntKind.u64.wrap ((u : Int) / 2))) - 1) = unz u := by
  rw [wrap_u64]; unfold unz wrap64; rw [if_pos h]; omega
theorem even_val (u : Nat) (hu : u < 18446744073709551616) (h : u % 2 = 0) : wrap64 (IntKind.u64.wrap ((u : Int) / 2)) = unz u := by
  rw [wrap_u64]; unfold unz wrap64; rw [if_neg (by omega)]; omega

set_option maxRecDepth 100000 in
set_option maxHeartbeats 4000000 in
theorem refNumber_any {A : Option Addr} {n c : Nat} {l : List Int} {w : World} (hA : Byt w A n c l) (hn : n ≤ 100000000) :
    Calls Try.prog 16 #[.slice A n c] w (NumP l w) := by
  have hl := hA.len
  have hcap := hA.cap
  have hni : (n : Int) ≤ 100000000 := by omega
  have HA := Lib.hid hA; have HMX := Lib.hid hA.max; clear hA hn
  go_enter Try.func16, Try.ntmps16
  go_wp2
  go_loopw [5, 6, 7] (fun u t i wr => ∃ (k acc U : Nat), i = .int .i64 (k : Int) ∧ u = .int .u64 (acc : Int) ∧ t = .int .u64 (U : Int) ∧ k ≤ n ∧ k ≤ 9 ∧ Hid (U = 128 ^ k) ∧ Hid (acc < 128 ^ k) ∧ Hid (dec k acc (l.drop k) = dec 0 0 l) ∧ wr = w) (fun _ _ i _ => n - (intOf i).toNat)
  case atStart => exact ⟨0, 0, 1, rfl, rfl, rfl, by omega, by omega, rfl, by show _ < _; decide, rfl, rfl⟩
  case round =>
    obtain ⟨k, acc, U, rfl, rfl, rfl, hk, hk9, hU, hacc, hd, rfl⟩ := hrel
    have hk10 : (k : Int) < 10 := by omega
    by_cases hlt : k < n
    · obtain ⟨b, off, x, rfl, hx, hcell, _⟩ := HA.out.at hlt
      have hr := HA.out.ran x (List.mem_of_getElem? hx)
      have hdec := hd.out
      rw [drop_at hx] at hdec
      have hlt' : (k : Int) < (n : Int) := by omega
      have hkn : ((k : Int) == (n : Int)) = false := by simp; omega
      by_cases hbad : (k = 9 ∧ x ≠ 1) ∨ (0 < k ∧ x = 0)
      · have HF : Hid (dec 0 0 l = (1, 0, [])) := Lib.hid (by rw [← hdec]; simp only [dec]; rw [if_pos hbad])
        clear hdec
        by_cases h9 : k = 9 ∧ x ≠ 1
        · obtain ⟨rfl, hx1⟩ := h9
          have hx1' : (x != 1) = true := by simp [hx1]
          clear hbad
          go_wp2
          go_ret3
          exact NumP.no 1 HF.out (by decide) rfl
        · obtain ⟨h0, rfl⟩ : 0 < k ∧ x = 0 := by omega
          have h9' : ((k : Int) == 9) = false := by simp; omega
          have h0' : (0 : Int) < (k : Int) := by omega
          clear hbad h9
          go_wp2
          go_ret3
          exact NumP.no 1 HF.out (by decide) rfl
      · have hst := mul_step hU.out hk9 hacc.out hr (by omega)
        obtain ⟨u, hu⟩ : ∃ u, acc + (x % 128).toNat * 128 ^ k = u := ⟨_, rfl⟩
        rw [hu] at hst
        have hmu := hst.1
        have HUB := Lib.hid hst.2
        have HE := Lib.hid hu
        clear hst hu
        by_cases h128 : (128 : Int) ≤ x
        · have h9 : k ≠ 9 := by omega
          have HF : Hid (dec (k + 1) u (l.drop (k + 1)) = dec 0 0 l) := Lib.hid (by
            rw [← hdec, ← HE.out]; simp only [dec]; rw [if_neg hbad, if_pos h128])
          have HP : Hid (u < 128 ^ (k + 1)) := Lib.hid (by
            have := hacc.out
            have h2 : (x % 128).toNat * 128 ^ k ≤ 127 * 128 ^ k := Nat.mul_le_mul_right _ (by omega)
            rw [← HE.out, Nat.pow_succ]; omega)
          have hUU : IntKind.u64.wrap ((U : Int) * 128) = ((U * 128 : Nat) : Int) := by
            have h1 : (128 : Nat) ^ k ≤ 128 ^ 8 := Nat.pow_le_pow_right (by decide) (by omega)
            rw [show (128 : Nat) ^ 8 = 72057594037927936 by decide] at h1
            have := hU.out
            rw [wrap_u64]; omega
          have h9' : ((k : Int) == 9) = false := by simp; omega
          have hx0 : (x == 0) = false := by simp; omega
          clear hdec hbad
          go_wp2
          all_goals go_roundw
          all_goals
            first
              | exact ⟨k + 1, u, U * 128, by first | rfl | (simp; omega), rfl, by rw [Int.natCast_mul]; rfl, by omega, by omega, by show _ = _; rw [hU.out, Nat.pow_succ], HP.out, HF.out, by first | trivial | rfl⟩
              | (simp [intOf]; omega)
        · have HF : Hid (dec 0 0 l = (0, u, l.drop (k + 1))) := Lib.hid (by
              rw [← hdec, ← HE.out]; simp only [dec]; rw [if_neg hbad, if_neg h128])
          clear hdec
          by_cases hpar : u % 2 = 1
          · have hp : ((u : Int) % 2 == 1) = true := by simp; omega
            have HV := Lib.hid (odd_val u HUB.out hpar)
            clear hpar
            by_cases h9 : k = 9
            · obtain rfl : x = 1 := by omega
              subst h9
              clear hbad
              have hmu9 : IntKind.u64.wrap ((acc : Int) + IntKind.u64.wrap (U : Int)) = (u : Int) := by rw [show (1 : Int) % 128 * (U : Int) = (U : Int) by omega] at hmu; exact hmu
              clear hmu
              by_cases hc : c = 9 + 1
              · have hm0 : n - (9 + 1) = 0 := by omega
                have hY : Byt wr (some ⟨b, off, none⟩) (n - (9 + 1)) 0 (l.drop (9 + 1)) := by
                  rw [hm0, List.drop_eq_nil_of_le (by omega)]
                  exact byt_none (by unfold maxLen; omega) (by intro h; cases h)
                have HJ := Lib.hid (join_any (byt_nil wr) hY (by omega))
                clear hY hm0
                go_wp2_with (go_at_call 31; refine HJ.out.mono ?_; rintro e w2 ⟨v2, rfl, ho2, hb2⟩)
                go_ret3
                exact NumP.yes HF.out (by rw [← HV.out]; rfl) ho2 hb2
              · have hY := byt_drop HA.out (9 + 1) (by omega)
                have HJ := Lib.hid (join_any (byt_nil wr) hY (by omega))
                clear hY
                go_wp2_with (go_at_call 31; refine HJ.out.mono ?_; rintro e w2 ⟨v2, rfl, ho2, hb2⟩)
                go_ret3
                exact NumP.yes HF.out (by rw [← HV.out]; rfl) ho2 hb2
            · have h9' : ((k : Int) == 9) = false := by simp; omega
              by_cases hk0 : (0 : Int) < (k : Int)
              · have hx0 : (x == 0) = false := by simp; omega
                clear hbad h9
                by_cases hc : c = k + 1
                · have hm0 : n - (k + 1) = 0 := by omega
                  have hY : Byt wr (some ⟨b, off, none⟩) (n - (k + 1)) 0 (l.drop (k + 1)) := by
                    rw [hm0, List.drop_eq_nil_of_le (by omega)]
                    exact byt_none (by unfold maxLen; omega) (by intro h; cases h)
                  have HJ := Lib.hid (join_any (byt_nil wr) hY (by omega))
                  clear hY hm0
                  go_wp2_with (go_at_call 31; refine HJ.out.mono ?_; rintro e w2 ⟨v2, rfl, ho2, hb2⟩)
                  go_ret3
                  exact NumP.yes HF.out (by rw [← HV.out]; rfl) ho2 hb2
                · have hY := byt_drop HA.out (k + 1) (by omega)
                  have HJ := Lib.hid (join_any (byt_nil wr) hY (by omega))
                  clear hY
                  go_wp2_with (go_at_call 31; refine HJ.out.mono ?_; rintro e w2 ⟨v2, rfl, ho2, hb2⟩)
                  go_ret3
                  exact NumP.yes HF.out (by rw [← HV.out]; rfl) ho2 hb2
              · have hk00 := hk0
                clear hbad h9
                by_cases hc : c = k + 1
                · have hm0 : n - (k + 1) = 0 := by omega
                  have hY : Byt wr (some ⟨b, off, none⟩) (n - (k + 1)) 0 (l.drop (k + 1)) := by
                    rw [hm0, List.drop_eq_nil_of_le (by omega)]
                    exact byt_none (by unfold maxLen; omega) (by intro h; cases h)
                  have HJ := Lib.hid (join_any (byt_nil wr) hY (by omega))
                  clear hY hm0
                  go_wp2_with (go_at_call 31; refine HJ.out.mono ?_; rintro e w2 ⟨v2, rfl, ho2, hb2⟩)
                  go_ret3
                  exact NumP.yes HF.out (by rw [← HV.out]; rfl) ho2 hb2
                · have hY := byt_drop HA.out (k + 1) (by omega)
                  have HJ := Lib.hid (join_any (byt_nil wr) hY (by omega))
                  clear hY
                  go_wp2_with (go_at_call 31; refine HJ.out.mono ?_; rintro e w2 ⟨v2, rfl, ho2, hb2⟩)
                  go_ret3
                  exact NumP.yes HF.out (by rw [← HV.out]; rfl) ho2 hb2
          · have hp : ((u : Int) % 2 == 1) = false := by simp; omega
            have HV := Lib.hid (even_val u HUB.out (by omega))
            clear hpar
            by_cases h9 : k = 9
            · obtain rfl : x = 1 := by omega
              subst h9
              clear hbad
              have hmu9 : IntKind.u64.wrap ((acc : Int) + IntKind.u64.wrap (U : Int)) = (u : Int) := by rw [show (1 : Int) % 128 * (U : Int) = (U : Int) by omega] at hmu; exact hmu
              clear hmu
              by_cases hc : c = 9 + 1
              · have hm0 : n - (9 + 1) = 0 := by omega
                have hY : Byt wr (some ⟨b, off, none⟩) (n - (9 + 1)) 0 (l.drop (9 + 1)) := by
                  rw [hm0, List.drop_eq_nil_of_le (by omega)]
                  exact byt_none (by unfold maxLen; omega) (by intro h; cases h)
                have HJ := Lib.hid (join_any (byt_nil wr) hY (by omega))
                clear hY hm0
                go_wp2_with (go_at_call 31; refine HJ.out.mono ?_; rintro e w2 ⟨v2, rfl, ho2, hb2⟩)
                go_ret3
                exact NumP.yes HF.out (by rw [← HV.out]; rfl) ho2 hb2
              · have hY := byt_drop HA.out (9 + 1) (by omega)
                have HJ := Lib.hid (join_any (byt_nil wr) hY (by omega))
                clear hY
                go_wp2_with (go_at_call 31; refine HJ.out.mono ?_; rintro e w2 ⟨v2, rfl, ho2, hb2⟩)
                go_ret3
                exact NumP.yes HF.out (by rw [← HV.out]; rfl) ho2 hb2
            · have h9' : ((k : Int) == 9) = false := by simp; omega
              by_cases hk0 : (0 : Int) < (k : Int)
              · have hx0 : (x == 0) = false := by simp; omega
                clear hbad h9
                by_cases hc : c = k + 1
                · have hm0 : n - (k + 1) = 0 := by omega
                  have hY : Byt wr (some ⟨b, off, none⟩) (n - (k + 1)) 0 (l.drop (k + 1)) := by
                    rw [hm0, List.drop_eq_nil_of_le (by omega)]
                    exact byt_none (by unfold maxLen; omega) (by intro h; cases h)
                  have HJ := Lib.hid (join_any (byt_nil wr) hY (by omega))
                  clear hY hm0
                  go_wp2_with (go_at_call 31; refine HJ.out.mono ?_; rintro e w2 ⟨v2, rfl, ho2, hb2⟩)
                  go_ret3
                  exact NumP.yes HF.out (by rw [← HV.out]; rfl) ho2 hb2
                · have hY := byt_drop HA.out (k + 1) (by omega)
                  have HJ := Lib.hid (join_any (byt_nil wr) hY (by omega))
                  clear hY
                  go_wp2_with (go_at_call 31; refine HJ.out.mono ?_; rintro e w2 ⟨v2, rfl, ho2, hb2⟩)
                  go_ret3
                  exact NumP.yes HF.out (by rw [← HV.out]; rfl) ho2 hb2
              · have hk00 := hk0
                clear hbad h9
                by_cases hc : c = k + 1
                · have hm0 : n - (k + 1) = 0 := by omega
                  have hY : Byt wr (some ⟨b, off, none⟩) (n - (k + 1)) 0 (l.drop (k + 1)) := by
                    rw [hm0, List.drop_eq_nil_of_le (by omega)]
                    exact byt_none (by unfold maxLen; omega) (by intro h; cases h)
                  have HJ := Lib.hid (join_any (byt_nil wr) hY (by omega))
                  clear hY hm0
                  go_wp2_with (go_at_call 31; refine HJ.out.mono ?_; rintro e w2 ⟨v2, rfl, ho2, hb2⟩)
                  go_ret3
                  exact NumP.yes HF.out (by rw [← HV.out]; rfl) ho2 hb2
                · have hY := byt_drop HA.out (k + 1) (by omega)
                  have HJ := Lib.hid (join_any (byt_nil wr) hY (by omega))
                  clear hY
                  go_wp2_with (go_at_call 31; refine HJ.out.mono ?_; rintro e w2 ⟨v2, rfl, ho2, hb2⟩)
                  go_ret3
                  exact NumP.yes HF.out (by rw [← HV.out]; rfl) ho2 hb2
    · obtain rfl : k = n := by omega
      have HF : Hid (dec 0 0 l = (2, 0, [])) := Lib.hid (by rw [← hd.out, List.drop_eq_nil_of_le (by omega)]; rfl)
      go_wp2
      go_ret3
      exact NumP.no 2 HF.out (by decide) rfl
end Go.Proofs.Ytlcjpnagjiemiaa
