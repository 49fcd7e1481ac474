/- Walks: how many units an amount pays for, in the program and in the reference. -/
import Derived.Test.YtcjceecdcjjnfaaLdB
import Derived.Laws.ByValue
import Derived.WalkMore
namespace Go.Proofs.Ytcjceecdcjjnfaa.Ck
open Go Go.Lib Go.RowKit Go.Proofs.Ytcjceecdcjjnfaa

theorem pays_of {l : List Sp} {f am n v x : Int} {b : Bool} (hv : btV l f n = v) (hx : btE l f n = x) (hb : paysB l f am n = b) : (x = 0 ∧ v ≤ am ∧ b = true) ∨ (x = 0 ∧ ¬ v ≤ am ∧ b = false) ∨ (x ≠ 0 ∧ b = false) := by
  subst hv hx hb
  unfold paysB
  by_cases h0 : btE l f n = 0
  · by_cases h1 : btV l f n ≤ am
    · exact .inl ⟨h0, h1, by rw [decide_eq_true h0, decide_eq_true h1]; rfl⟩
    · exact .inr (.inl ⟨h0, h1, by rw [decide_eq_true h0, decide_eq_false h1]; rfl⟩)
  · exact .inr (.inr ⟨h0, by rw [decide_eq_false h0]; rfl⟩)

set_option maxRecDepth 100000 in
set_option maxHeartbeats 4000000 in
/-- The local function of Units. -/
theorem units1_any (A : Option Addr) (m c : Nat) (l : List Sp) (f am n : Int) (b : Bool) (hb : paysB l f am n = b) (p q r : Nat) (w : World) (hA : SpR w A l) (hm : l.length = m) (hc : m ≤ c) (hcm : c ≤ maxLen) (hp : Blk w p 22 #[.slice A m c]) (hq : Blk w q 3 #[.int .i64 f]) (hr : Blk w r 3 #[.int .i64 am]) :
    Calls Try.prog 24 #[.int .i64 n, .pointer (some ⟨p, 0, none⟩), .pointer (some ⟨q, 0, none⟩), .pointer (some ⟨r, 0, none⟩)] w fun e w' => e = .returned (.bool b) ∧ Below w.heap.size w w' := by
  obtain ⟨x, hx⟩ : ∃ x, btE l f n = x := ⟨_, rfl⟩
  obtain ⟨v, hv⟩ : ∃ v, btV l f n = v := ⟨_, rfl⟩
  have HB := Lib.hid (between_is hv hx A m c w hA hm hc hcm)
  have c0 := hp.cell 0; have c1 := hq.cell 0; have c2 := hr.cell 0
  have HR := Lib.hid hr
  rcases pays_of hv hx hb with ⟨h0, h1, rfl⟩ | ⟨h0, h1, rfl⟩ | ⟨h0, rfl⟩
  · subst h0
    have d1 : decide (v ≤ am) = true := decide_eq_true h1
    clear hA hm hx hv hb hp hq hr h1
    go_enter Try.func24, Try.ntmps24
    go_wp2_with (go_at_call 12; (with_reducible refine HB.out.mono ?_); rintro e w1 ⟨rfl, hb1⟩; have HB1 := Lib.hid hb1; clear hb1 c0 c1 c2; have c2 := (HR.out.below HB1.out HR.out.lt).cell 0)
    go_ret
    exact ⟨rfl, HB1.out⟩
  · subst h0
    have d1 : decide (v ≤ am) = false := decide_eq_false h1
    clear hA hm hx hv hb hp hq hr h1
    go_enter Try.func24, Try.ntmps24
    go_wp2_with (go_at_call 12; (with_reducible refine HB.out.mono ?_); rintro e w1 ⟨rfl, hb1⟩; have HB1 := Lib.hid hb1; clear hb1 c0 c1 c2; have c2 := (HR.out.below HB1.out HR.out.lt).cell 0)
    go_ret
    exact ⟨rfl, HB1.out⟩
  · have d0 : (x == 0) = false := by rw [beq_eq_false_iff_ne]; exact h0
    clear hA hm hx hv hb hp hq hr h0
    go_enter Try.func24, Try.ntmps24
    go_wp2_with (go_at_call 12; (with_reducible refine HB.out.mono ?_); rintro e w1 ⟨rfl, hb1⟩; have HB1 := Lib.hid hb1; clear hb1 c0 c1 c2)
    go_ret
    exact ⟨rfl, HB1.out⟩

set_option maxRecDepth 100000 in
set_option maxHeartbeats 4000000 in
theorem refPays_any (A : Option Addr) (m c : Nat) (l : List Sp) (f am n : Int) (b : Bool) (hb : paysB l f am n = b) (w : World) (hA : SpR w A l) (hm : l.length = m) (hc : m ≤ c) (hcm : c ≤ maxLen) (hfr : -9223372036854775808 ≤ f ∧ f ≤ 9223372036854775807) (hnr : -9223372036854775808 ≤ n ∧ n ≤ 9223372036854775807) :
    Calls Try.prog 25 #[.slice A m c, .int .i64 f, .int .i64 n, .int .i64 am] w fun e w' => e = .returned (.bool b) ∧ Below w.heap.size w w' := by
  obtain ⟨x, hx⟩ : ∃ x, btE l f n = x := ⟨_, rfl⟩
  obtain ⟨v, hv⟩ : ∃ v, btV l f n = v := ⟨_, rfl⟩
  have HB := Lib.hid (refBetween_is hv hx A m c w hA hm hc hcm hfr hnr)
  rcases pays_of hv hx hb with ⟨h0, h1, rfl⟩ | ⟨h0, h1, rfl⟩ | ⟨h0, rfl⟩
  · subst h0
    have d1 : decide (v ≤ am) = true := decide_eq_true h1
    clear hA hm hx hv hb h1
    go_enter Try.func25, Try.ntmps25
    go_wp2_with (go_at_call 13; (with_reducible refine HB.out.mono ?_); rintro e w1 ⟨rfl, hb1⟩; have HB1 := Lib.hid hb1; clear hb1)
    go_ret
    exact ⟨rfl, HB1.out⟩
  · subst h0
    have d1 : decide (v ≤ am) = false := decide_eq_false h1
    clear hA hm hx hv hb h1
    go_enter Try.func25, Try.ntmps25
    go_wp2_with (go_at_call 13; (with_reducible refine HB.out.mono ?_); rintro e w1 ⟨rfl, hb1⟩; have HB1 := Lib.hid hb1; clear hb1)
    go_ret
    exact ⟨rfl, HB1.out⟩
  · have d0 : (x == 0) = false := by rw [beq_eq_false_iff_ne]; exact h0
    clear hA hm hx hv hb h0
    go_enter Try.func25, Try.ntmps25
    go_wp2_with (go_at_call 13; (with_reducible refine HB.out.mono ?_); rintro e w1 ⟨rfl, hb1⟩; have HB1 := Lib.hid hb1; clear hb1)
    go_ret
    exact ⟨rfl, HB1.out⟩

set_option maxRecDepth 100000 in
set_option maxHeartbeats 8000000 in
theorem units_any (A : Option Addr) (m c : Nat) (l : List Sp) (f am : Int) (u : Nat) (hu : IsU l f am u) (w : World) (hA : SpR w A l) (hm : l.length = m) (hc : m ≤ c) (hcm : c ≤ maxLen) :
    Calls Try.prog 16 #[.slice A m c, .int .i64 f, .int .i64 am] w fun e w' => e = .returned (.int .i64 u) ∧ Below w.heap.size w w' := by
  obtain ⟨g, hg⟩ : ∃ g, w.heap.size = g := ⟨_, rfl⟩
  obtain ⟨W1, hW1⟩ : ∃ W, w.alloc (.cells #[.slice A m c] 22) = W := ⟨_, rfl⟩
  have z1 : W1.heap.size = g + 1 := by rw [← hW1, ← hg]; simp
  obtain ⟨W2, hW2⟩ : ∃ W, W1.alloc (.cells #[.int .i64 f] 3) = W := ⟨_, rfl⟩
  have z2 : W2.heap.size = g + 1 + 1 := by rw [← hW2, ← z1]; simp
  obtain ⟨W, hW3⟩ : ∃ W, W2.alloc (.cells #[.int .i64 am] 3) = W := ⟨_, rfl⟩
  have hp1 : Blk W1 g 22 #[.slice A m c] := hW1 ▸ hg ▸ Blk.new w _ _
  have hq1 : Blk W2 (g + 1) 3 #[.int .i64 f] := hW2 ▸ z1 ▸ Blk.new W1 _ _
  have hp : Blk W g 22 #[.slice A m c] := hW3 ▸ (hW2 ▸ hp1.alloc _ : Blk W2 g _ _).alloc _
  have hq : Blk W (g + 1) 3 #[.int .i64 f] := hW3 ▸ hq1.alloc _
  have hr : Blk W (g + 1 + 1) 3 #[.int .i64 am] := hW3 ▸ z2 ▸ Blk.new W2 _ _
  have hb1 : Below w.heap.size w W1 := hW1 ▸ below_one w _
  have hb2 : Below w.heap.size w W2 := hW2 ▸ hb1.alloc hb1.size _
  have HBW : Hid (Below w.heap.size w W) := Lib.hid (hW3 ▸ hb2.alloc hb2.size _)
  have HK := Lib.hid (fun (n : Int) (b : Bool) (hb : paysB l f am n = b) (V : World) (h : Below W.heap.size W V) => units1_any A m c l f am n b hb g (g + 1) (g + 1 + 1) V (hA.below (below_then HBW.out (Nat.le_refl _) h) rfl) hm hc hcm (hp.below h hp.lt) (hq.below h hq.lt) (hr.below h hr.lt))
  have HQ := Lib.hid hq
  cases h0 : paysB l f am 0
  · have HU : Hid (u = 0) := Lib.hid (by rcases hu with ⟨_, h⟩ | ⟨h, _⟩; exact h; rw [pays_less (a := 0) (by omega) (by omega) h] at h0; cases h0)
    have HK0 := Lib.hid (HK.out 0 false h0 W (Below.refl _ _))
    clear hu hA hm hp1 hq1 hp hq hr hb1 hb2 h0 HK
    have hmf : ∀ (fn : Fn) (first cap : Array Value) (w : World), (Instr.makeFunc fn first cap).run Try.prog w = .ok (.func fn first cap) w := fun _ _ _ _ => rfl
    go_enter Try.func16, Try.ntmps16
    go_wp2
    go_step3
    go_wp2_with (go_at_call 24; (with_reducible refine HK0.out.mono ?_); rintro e w1 ⟨rfl, hb1⟩; have HB1 := Lib.hid (below_then HBW.out (Nat.le_of_eq rfl) hb1); clear hb1)
    rw [Exit.noGoto_ret]
    go_ret
    exact ⟨ret_i (by rw [HU.out]; rfl), HB1.out⟩
  · have HLE := Lib.hid (fun (n : Nat) => hu.le h0 (n := n))
    have hf0 := pays_max h0
    have humax : f + u ≤ 1099511627776 := (pays_max (hu.pays h0).1).2.2
    obtain ⟨F, rfl⟩ := Int.eq_ofNat_of_zero_le hf0.1
    have hwf : IntKind.i64.wrap (1099511627776 - (F : Int)) = ((1099511627776 - F : Nat) : Int) := by simp only [IntKind.wrap_i64]; omega
    have HK0 := Lib.hid (HK.out 0 true h0 W (Below.refl _ _))
    clear hu hA hm hp1 hq1 hp hq hr hb1 hb2 h0
    have hmf : ∀ (fn : Fn) (first cap : Array Value) (w : World), (Instr.makeFunc fn first cap).run Try.prog w = .ok (.func fn first cap) w := fun _ _ _ _ => rfl
    go_enter Try.func16, Try.ntmps16
    go_wp2
    go_step3
    go_wp2_with (go_at_call 24; (with_reducible refine HK0.out.mono ?_); rintro e w1 ⟨rfl, hb1⟩; have HB1 := Lib.hid hb1; have c1 := (HQ.out.below hb1 HQ.out.lt).cell 0; clear hb1)
    clear HK0
    refine wp_region_quiet_lit (by kernel_rfl) (by kernel_rfl) ?_
    iterate 4 (quiet_step (fail))
    refine wpQuiet_nil ?_
    intro W4 hW4
    obtain ⟨nq, hW4⟩ := hW4
    have HB4 : Hid (Below W.heap.size W W4) := Lib.hid (hW4 ▸ below_dq HB1.out _)
    clear hW4 c1
    go_wp2
    go_step3
    go_wp2
    go_loopw [8, 9] (fun s8 s9 wr => ∃ (a b : Nat), s8 = .int .i64 a ∧ s9 = .int .i64 b ∧ a ≤ u ∧ u ≤ b ∧ b ≤ 1099511627776 ∧ Hid (Below W.heap.size W wr)) (fun s8 s9 _ => (RowKit.intOf s9).toNat - (RowKit.intOf s8).toNat)
    case atStart => exact ⟨0, 1099511627776 - F, rfl, rfl, by omega, by omega, by omega, HB4⟩
    case round =>
      obtain ⟨a, b, rfl, rfl, ha, hb, hbm, HB⟩ := hrel
      go_upto_region 7 with fail
      obtain ⟨N, hN⟩ : ∃ N, b - (b - a) / 2 = N := ⟨_, rfl⟩
      have hNi : (b : Int) - ((b : Int) - (a : Int)) / 2 = (N : Int) := by omega
      simp only [hNi]
      clear hNi
      by_cases hab : a = b
      · have hu2 : u = a := by omega
        have HU := Lib.hid hu2
        have d0 : ((a : Int) == (b : Int)) = true := by rw [beq_iff_eq]; omega
        clear hN hab hu2 HK HLE
        go_wp2_with fail
        rw [Exit.noGoto_ret]
        go_ret
        exact ⟨ret_i (by rw [HU.out]), below_then HBW.out (Nat.le_of_eq rfl) HB.out⟩
      · have d0 : ((a : Int) == (b : Int)) = false := by rw [beq_eq_false_iff_ne]; omega
        have hle := HLE.out N
        by_cases hNu : N ≤ u
        · rw [decide_eq_true hNu] at hle
          have HKN := Lib.hid (HK.out N true hle wr HB.out)
          clear hle HK
          go_wp2_with (go_at_call 24; (with_reducible refine HKN.out.mono ?_); rintro e w1 ⟨rfl, hb1⟩; have HBN := Lib.hid (below_then HB.out (Nat.le_of_eq rfl) hb1); clear hb1)
          go_roundw
          case rel => exact ⟨N, b, rfl, rfl, hNu, hb, hbm, HBN⟩
          case measure => simp [RowKit.intOf] <;> omega
        · rw [decide_eq_false hNu] at hle
          have HKN := Lib.hid (HK.out N false hle wr HB.out)
          clear hle HK
          go_wp2_with (go_at_call 24; (with_reducible refine HKN.out.mono ?_); rintro e w1 ⟨rfl, hb1⟩; have HBN := Lib.hid (below_then HB.out (Nat.le_of_eq rfl) hb1); clear hb1)
          go_roundw
          case rel => exact ⟨a, N - 1, rfl, by go_num, ha, by omega, by omega, HBN⟩
          case measure => simp [RowKit.intOf] <;> omega

set_option maxRecDepth 100000 in
set_option maxHeartbeats 8000000 in
theorem refUnits_any (A : Option Addr) (m c : Nat) (l : List Sp) (f am : Int) (u : Nat) (hu : IsU l f am u) (w : World) (hA : SpR w A l) (hm : l.length = m) (hc : m ≤ c) (hcm : c ≤ maxLen) (hfr : -9223372036854775808 ≤ f ∧ f ≤ 9223372036854775807) :
    Calls Try.prog 17 #[.slice A m c, .int .i64 f, .int .i64 am] w fun e w' => e = .returned (.int .i64 u) ∧ Below w.heap.size w w' := by
  have HK := Lib.hid (fun (n : Int) (b : Bool) (hb : paysB l f am n = b) (hn : -9223372036854775808 ≤ n ∧ n ≤ 9223372036854775807) (V : World) (h : Below w.heap.size w V) => refPays_any A m c l f am n b hb V (hA.below h rfl) hm hc hcm hfr hn)
  by_cases h1 : f < 0
  · have HU : Hid (u = 0) := Lib.hid (by rcases hu with ⟨_, h⟩ | ⟨h, _⟩; exact h; have := pays_max h; omega)
    have d1 : decide (f < 0) = true := decide_eq_true h1
    clear hu hA hm HK h1
    go_enter Try.func17, Try.ntmps17
    go_wp2_with fail
    go_ret
    exact ⟨ret_i (by rw [HU.out]; rfl), Below.refl _ _⟩
  have d1 : decide (f < 0) = false := decide_eq_false h1
  by_cases h2 : 1099511627776 < f
  · have HU : Hid (u = 0) := Lib.hid (by rcases hu with ⟨_, h⟩ | ⟨h, _⟩; exact h; have := pays_max h; omega)
    have d2 : decide (1099511627776 < f) = true := decide_eq_true h2
    clear hu hA hm HK h1 h2
    go_enter Try.func17, Try.ntmps17
    go_wp2_with fail
    go_ret
    exact ⟨ret_i (by rw [HU.out]; rfl), Below.refl _ _⟩
  have d2 : decide (1099511627776 < f) = false := decide_eq_false h2
  cases h0 : paysB l f am 0
  · have HU : Hid (u = 0) := Lib.hid (by rcases hu with ⟨_, h⟩ | ⟨h, _⟩; exact h; rw [pays_less (a := 0) (by omega) (by omega) h] at h0; cases h0)
    have HK0 := Lib.hid (HK.out 0 false h0 (by decide) w (Below.refl _ _))
    clear hu hA hm HK h1 h2 h0
    go_enter Try.func17, Try.ntmps17
    go_wp2_with (go_at_call 25; (with_reducible refine HK0.out.mono ?_); rintro e w1 ⟨rfl, hb1⟩; have HB1 := Lib.hid hb1; clear hb1)
    go_ret
    exact ⟨ret_i (by rw [HU.out]; rfl), HB1.out⟩
  · have HLE := Lib.hid (fun (n : Nat) => hu.le h0 (n := n))
    have humax : f + u ≤ 1099511627776 := (pays_max (hu.pays h0).1).2.2
    have HK0 := Lib.hid (HK.out 0 true h0 (by decide) w (Below.refl _ _))
    clear hu hA hm h0
    go_enter Try.func17, Try.ntmps17
    go_wp2_with (go_at_call 25; (with_reducible refine HK0.out.mono ?_); rintro e w1 ⟨rfl, hb1⟩; have HB1 := Lib.hid hb1; clear hb1)
    clear HK0 d1 d2
    go_loopw [7, 8] (fun s7 s8 wr => ∃ (a h : Nat), s7 = .int .i64 a ∧ s8 = .int .i64 h ∧ a ≤ u ∧ u < a + 2 * h + 1 ∧ h ≤ 1099511627776 ∧ Hid (h = 0 ∨ ∃ j, h = 2 ^ j) ∧ Hid (h ≠ 0 → u < a + 2 * h) ∧ Hid (Below w.heap.size w wr)) (fun _ s8 _ => (RowKit.intOf s8).toNat)
    case atStart => exact ⟨0, 1099511627776, rfl, rfl, by omega, by omega, by omega, Lib.hid (.inr ⟨40, rfl⟩), Lib.hid (fun _ => by omega), HB1⟩
    case round =>
      obtain ⟨a, h, rfl, rfl, ha, hb, hhm, HPW, HLT, HB⟩ := hrel
      by_cases hh : h = 0
      · subst hh
        have hu2 : u = a := by omega
        have HU := Lib.hid hu2
        clear hu2 HK HLE HPW HLT
        go_wp2_with fail
        go_ret
        exact ⟨ret_i (by rw [HU.out]), HB.out⟩
      · have hpos : (0 : Int) < (h : Int) := by omega
        have hlt := HLT.out hh
        obtain ⟨h2v, hh2⟩ : ∃ v, h / 2 = v := ⟨_, rfl⟩
        have e2 : (h : Int) / 2 = (h2v : Int) := by omega
        have e3 : IntKind.i64.wrap ((h : Int).tdiv 2) = (h2v : Int) := by rw [Int.tdiv_eq_ediv_of_nonneg (by omega), e2]; simp only [IntKind.wrap_i64]; omega
        have pw2 : Hid (h2v = 0 ∨ ∃ j, h2v = 2 ^ j) := Lib.hid (by
          rcases HPW.out with e | ⟨j, e⟩
          · exact absurd e hh
          · cases j with
            | zero => left; rw [← hh2, e]
            | succ j => right; exact ⟨j, by rw [← hh2, e, Nat.pow_succ]; omega⟩)
        have hodd : h = 1 ∨ h = 2 * h2v := by
          rcases HPW.out with e | ⟨j, e⟩
          · exact absurd e hh
          · cases j with
            | zero => left; exact e
            | succ j => right; rw [← hh2, e, Nat.pow_succ]; omega
        have hle := HLE.out (a + h)
        by_cases hNu : a + h ≤ u
        · rw [decide_eq_true hNu] at hle
          have HKN := Lib.hid (HK.out ((a : Int) + (h : Int)) true (by rw [← hle]; rfl) (by omega) wr HB.out)
          clear hle HK HPW HLT hh2
          go_wp2_with (go_at_call 25; (with_reducible refine HKN.out.mono ?_); rintro e w1 ⟨rfl, hb1⟩; have HBN := Lib.hid (below_then HB.out (Nat.le_of_eq rfl) hb1); clear hb1)
          go_roundw
          case rel => exact ⟨a + h, h2v, by go_num, by first | rfl | (rw [e2]), hNu, by omega, by omega, pw2, Lib.hid (fun _ => by omega), HBN⟩
          case measure => simp [RowKit.intOf] <;> omega
        · rw [decide_eq_false hNu] at hle
          have HKN := Lib.hid (HK.out ((a : Int) + (h : Int)) false (by rw [← hle]; rfl) (by omega) wr HB.out)
          clear hle HK HPW HLT hh2
          go_wp2_with (go_at_call 25; (with_reducible refine HKN.out.mono ?_); rintro e w1 ⟨rfl, hb1⟩; have HBN := Lib.hid (below_then HB.out (Nat.le_of_eq rfl) hb1); clear hb1)
          go_roundw
          case rel => exact ⟨a, h2v, rfl, by first | rfl | (rw [e2]), ha, by omega, by omega, pw2, Lib.hid (fun _ => by omega), HBN⟩
          case measure => simp [RowKit.intOf] <;> omega
end Go.Proofs.Ytcjceecdcjjnfaa.Ck
