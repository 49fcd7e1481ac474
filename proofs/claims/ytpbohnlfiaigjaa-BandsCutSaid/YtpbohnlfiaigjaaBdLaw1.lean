/- Walks: the laws on checks, on the band of an instant, on pieces. -/
import Derived.Test.YtpbohnlfiaigjaaBdAwk
import Derived.Lib.QuietBelow
namespace Go.Proofs.Ytpbohnlfiaigjaa
open Go.RowKit

theorem nsl_step {l : List Bd} {k L : Nat} {x : ByteArray} {ss : List Sl} (hk : k < l.length) (hp : l.getD k bd0 = (x, ss)) (hL : ss.length = L) : nsl (l.take (k + 1)) = nsl (l.take k) + L := by
  rw [List.take_succ_eq_append_getElem hk, nsl_snoc]
  have : l[k] = (x, ss) := by simpa [List.getD, List.getElem?_eq_getElem hk] using hp
  rw [this, hL]
set_option maxHeartbeats 8000000 in
theorem walkBandsChecks (A : Option Addr) (n c : Nat) (l : List Bd) (w : World) (hA : BdR w A l) (hn : l.length = n) (hc : n ≤ c) (hm : c ≤ maxLen) (hz : ∀ b ∈ l, b.2.length ≤ 6000000000000) :
    Calls Try.prog 3 #[.slice A n c] w fun e w' => e = .returned (.bool true) ∧ Below w.heap.size w w' := by
  obtain ⟨ev, hev⟩ : ∃ v, ckB l = v := ⟨_, rfl⟩
  have H1 := Lib.hid (fun W h => check_is A n c l ev hev W h hn hc hm)
  have H2 := Lib.hid (fun W h => refCheck_is A n c l ev hev W h hn hc hm)
  have HA := Lib.hid hA; have HN := Lib.hid hn; have HZ := Lib.hid hz
  have hmx := hm
  unfold maxLen at hmx
  clear hA hn hm hz hev
  go_enter Try.func3, Try.ntmps3
  go_wp2_with fail
  go_loopw [3, 4] (fun sv kv wr => ∃ k s : Nat, kv = .int .i64 k ∧ k ≤ n ∧ sv = .int .i64 s ∧ s ≤ 6000000000400 ∧ wr = w) (fun _ kv _ => n - (intOf kv).toNat)
  case atStart => exact ⟨0, 0, rfl, by omega, rfl, by omega, rfl⟩
  case round =>
    obtain ⟨k, s, rfl, hk, rfl, hs, rfl⟩ := hrel
    by_cases hlt : k < n
    · have d1 : decide ((k : Int) < (n : Int)) = true := decide_eq_true (by omega)
      have hlt' : (k : Int) < (n : Int) := by omega
      by_cases h100 : k ≤ 100
      · have d2 : decide ((k : Int) ≤ 100) = true := decide_eq_true (by omega)
        by_cases h400 : s ≤ 400
        · have d3 : decide ((s : Int) ≤ 400) = true := decide_eq_true (by omega)
          have hkl : k < l.length := by rw [HN.out]; exact hlt
          obtain ⟨bk, off, S, c2, rfl, hbl, q0, e1, q2, q3, q4, _⟩ := HA.out k hkl
          obtain ⟨L, hL⟩ : ∃ L, (l.getD k bd0).2.length = L := ⟨_, rfl⟩
          have hLz : L ≤ 6000000000000 := by rw [← hL]; exact HZ.out _ (by simp [List.getD, List.getElem?_eq_getElem hkl])
          rw [hL] at e1
          clear q0 q2 q3 q4 hL hkl h100
          go_wp2_with fail
          go_roundw
          case rel => exact ⟨k + 1, s + L, by go_num, by omega, by go_num, by omega, trivial⟩
          case measure => simp [intOf]; omega
        · have d3 : decide ((s : Int) ≤ 400) = false := decide_eq_false (by omega)
          have d4 : decide (400 < (s : Int)) = true := decide_eq_true (by omega)
          clear h100 h400
          cases d5 : decide (100 < (n : Int))
          all_goals
            go_wp2_with (go_at_call 14; (with_reducible refine (awake_any _).mono ?_); rintro e w6 ⟨rfl, hb6⟩)
            go_ret
            exact ⟨rfl, hb6⟩
      · have d2 : decide ((k : Int) ≤ 100) = false := decide_eq_false (by omega)
        have d5 : decide (100 < (n : Int)) = true := decide_eq_true (by omega)
        clear h100
        go_wp2_with (go_at_call 14; (with_reducible refine (awake_any _).mono ?_); rintro e w6 ⟨rfl, hb6⟩)
        go_ret
        exact ⟨rfl, hb6⟩
    · obtain rfl : k = n := by omega
      cases d5 : decide (100 < (k : Int))
      · cases d4 : decide (400 < (s : Int))
        · go_wp2_with (first
            | (go_at_call 15; (with_reducible refine (H1.out _ HA.out).mono ?_); rintro e w1 ⟨rfl, hb1⟩; have hs1 := hb1.size)
            | (go_at_call 16; (with_reducible refine (H2.out _ (HA.out.below hb1)).mono ?_); rintro e w2 ⟨rfl, hb2⟩; have hb3 := hb1.trans (hb2.mono hs1); have hs3 := hb3.size)
            | (go_at_call 14; (with_reducible refine (awake_any _).mono ?_); rintro e w6 ⟨rfl, hb6⟩))
          go_ret
          exact ⟨rfl, hb3.trans (hb6.mono hs3)⟩
        · go_wp2_with (go_at_call 14; (with_reducible refine (awake_any _).mono ?_); rintro e w6 ⟨rfl, hb6⟩)
          go_ret
          exact ⟨rfl, hb6⟩
      · go_wp2_with (go_at_call 14; (with_reducible refine (awake_any _).mono ?_); rintro e w6 ⟨rfl, hb6⟩)
        go_ret
        exact ⟨rfl, hb6⟩
/-- What 'light' leaves. -/
def LtOut (l : List Bd) (m n : Nat) (ev : Int) (e : Ending) : Prop := ∃ v : Bool, e = .returned (.bool v) ∧ (v = true → m ≤ 40 ∧ (ev = 0 → nsl l ≤ 30 ∧ n ≤ 8))
set_option maxHeartbeats 8000000 in
theorem light_any (A B : Option Addr) (n c m c' : Nat) (l : List Bd) (w : World) (hA : BdR w A l) (hn : l.length = n) (hc : n ≤ c) (hm : c ≤ maxLen) (hm' : m ≤ maxLen) (hz : ∀ b ∈ l, b.2.length ≤ 6000000000000) :
    Calls Try.prog 17 #[.agg #[.slice A n c, .slice B m c']] w fun e w' => LtOut l m n (ckB l) e ∧ Below w.heap.size w w' := by
  obtain ⟨ev, hev⟩ : ∃ v, ckB l = v := ⟨_, rfl⟩
  have H2 := Lib.hid (fun W h => refCheck_is A n c l ev hev W h hn hc hm)
  have HA := Lib.hid hA; have HN := Lib.hid hn; have HZ := Lib.hid hz
  have hmx := hm
  have HBX := Lib.hid (Blk.new w 32 #[.slice A n c, .slice B m c'])
  obtain ⟨x0, x1⟩ := HBX.out.two
  have hb0 : Below w.heap.size w (w.alloc (.cells #[.slice A n c, .slice B m c'] 32)) := (Below.refl _ w).alloc (Nat.le_refl _) _
  have HB0 := Lib.hid hb0
  unfold maxLen at hmx hm'
  rw [hev]
  clear hA hn hm hz hev hb0
  by_cases hn1 : 100 < n
  · have d1 : decide (100 < (n : Int)) = true := decide_eq_true (by omega)
    clear hn1
    go_enter Try.func17, Try.ntmps17
    go_wp2_with fail
    go_ret
    exact ⟨⟨false, rfl, fun h => by cases h⟩, HB0.out⟩
  · have d1 : decide (100 < (n : Int)) = false := decide_eq_false (by omega)
    by_cases hm1 : 40 < m
    · have d2 : decide (40 < (m : Int)) = true := decide_eq_true (by omega)
      clear hn1 hm1
      go_enter Try.func17, Try.ntmps17
      go_wp2_with fail
      go_ret
      exact ⟨⟨false, rfl, fun h => by cases h⟩, HB0.out⟩
    · have d2 : decide (40 < (m : Int)) = false := decide_eq_false (by omega)
      go_enter Try.func17, Try.ntmps17
      go_wp2_with fail
      clear d1 d2
      go_loopw [3, 4] (fun sv kv wr => ∃ k s : Nat, kv = .int .i64 k ∧ k ≤ n ∧ sv = .int .i64 s ∧ s ≤ 6000000000400 ∧ s = nsl (l.take k) ∧ wr = w.alloc (.cells #[.slice A n c, .slice B m c'] 32)) (fun _ kv _ => n - (intOf kv).toNat)
      case atStart => exact ⟨0, 0, rfl, by omega, rfl, by omega, rfl, rfl⟩
      case round =>
        obtain ⟨k, s, rfl, hk, rfl, hs, hsn, rfl⟩ := hrel
        by_cases hlt : k < n
        · have d1 : decide ((k : Int) < (n : Int)) = true := decide_eq_true (by omega)
          have hlt' : (k : Int) < (n : Int) := by omega
          by_cases h400 : s ≤ 400
          · have d3 : decide ((s : Int) ≤ 400) = true := decide_eq_true (by omega)
            have hkl : k < l.length := by rw [HN.out]; exact hlt
            obtain ⟨bk, off, S, c2, rfl, hbl, q0, q1, q2, q3, q4, _⟩ := HA.out k hkl
            obtain ⟨⟨x, ss⟩, hp⟩ : ∃ p, l.getD k bd0 = p := ⟨_, rfl⟩
            have hLz : (l.getD k bd0).2.length ≤ 6000000000000 := HZ.out _ (by simp [List.getD, List.getElem?_eq_getElem hkl])
            rw [hp] at q1 hLz
            simp only at q1 hLz
            obtain ⟨L, hL⟩ : ∃ L, ss.length = L := ⟨_, rfl⟩
            rw [hL] at q1 hLz
            have HS := Lib.hid (nsl_step hkl hp hL)
            have e1 := (HB0.out.cell (p := ⟨bk, off + k * 2 + 1, none⟩) hbl).trans q1
            have HSN := Lib.hid hsn
            clear q0 q1 q2 q3 q4 hL hkl hp hsn
            go_wp2_with fail
            go_roundw
            case rel => exact ⟨k + 1, s + L, by go_num, by omega, by go_num, by omega, by rw [HS.out, HSN.out], trivial⟩
            case measure => simp [intOf]; omega
          · have d3 : decide ((s : Int) ≤ 400) = false := decide_eq_false (by omega)
            have d4 : decide (400 < (s : Int)) = true := decide_eq_true (by omega)
            clear h400 hsn
            go_wp2_with fail
            go_ret
            exact ⟨⟨false, rfl, fun h => by cases h⟩, HB0.out⟩
        · obtain rfl : k = n := by omega
          have HSN : Hid (s = nsl l) := Lib.hid (by rw [hsn, ← HN.out, List.take_length])
          have HM1 := Lib.hid hm1
          clear hsn hm1
          cases d4 : decide (400 < (s : Int))
          · by_cases hz0 : ev = 0
            · subst hz0
              by_cases h8 : k ≤ 8 ∧ s ≤ 30
              · have d6 : decide ((k : Int) ≤ 8) = true := decide_eq_true (by omega)
                have d7 : decide ((s : Int) ≤ 30) = true := decide_eq_true (by omega)
                go_wp2_with (go_at_call 16; (with_reducible refine (H2.out _ (HA.out.below HB0.out)).mono ?_); rintro e w2 ⟨rfl, hb2⟩; have hbx := HBX.out.below hb2 HBX.out.lt; obtain ⟨y0, y1⟩ := hbx.two; have hb3 := HB0.out.trans (hb2.mono HB0.out.size))
                go_ret
                exact ⟨⟨true, rfl, fun _ => ⟨by have := HM1.out; omega, fun _ => ⟨by rw [← HSN.out]; exact h8.2, h8.1⟩⟩⟩, hb3⟩
              · have d6 : (decide ((k : Int) ≤ 8) = false) ∨ (decide ((k : Int) ≤ 8) = true ∧ decide ((s : Int) ≤ 30) = false) := by
                  by_cases h : k ≤ 8
                  · exact .inr ⟨decide_eq_true (by omega), decide_eq_false (by omega)⟩
                  · exact .inl (decide_eq_false (by omega))
                clear h8
                rcases d6 with d6 | ⟨d6, d7⟩
                all_goals
                  go_wp2_with (go_at_call 16; (with_reducible refine (H2.out _ (HA.out.below HB0.out)).mono ?_); rintro e w2 ⟨rfl, hb2⟩; have hbx := HBX.out.below hb2 HBX.out.lt; obtain ⟨y0, y1⟩ := hbx.two; have hb3 := HB0.out.trans (hb2.mono HB0.out.size))
                  go_ret
                  exact ⟨⟨false, rfl, fun h => by cases h⟩, hb3⟩
            · have hzq : (ev == 0) = false := by simp [hz0]
              go_wp2_with (go_at_call 16; (with_reducible refine (H2.out _ (HA.out.below HB0.out)).mono ?_); rintro e w2 ⟨rfl, hb2⟩; have hbx := HBX.out.below hb2 HBX.out.lt; obtain ⟨y0, y1⟩ := hbx.two; have hb3 := HB0.out.trans (hb2.mono HB0.out.size))
              go_ret
              exact ⟨⟨true, rfl, fun _ => ⟨by have := HM1.out; omega, fun h => absurd h hz0⟩⟩, hb3⟩
          · go_wp2_with fail
            go_ret
            exact ⟨⟨false, rfl, fun h => by cases h⟩, HB0.out⟩
end Go.Proofs.Ytpbohnlfiaigjaa
