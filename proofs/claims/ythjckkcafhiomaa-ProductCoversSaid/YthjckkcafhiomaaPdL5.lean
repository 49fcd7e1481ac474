/- Walk of the law on the periods of fees. -/
import Derived.Test.YthjckkcafhiomaaPdL3
namespace Go.Proofs.Ythjckkcafhiomaa
open Go.RowKit Pd

namespace Pd
theorem at_some (A : Option Addr) (n c : Nat) (l : List Pr) (nm : ByteArray) (t : Int) (u : Pr) (ho : verA l nm t = some u) (w : World) (hA : PrR w A l) (hn : l.length = n) (h6 : n ≤ 1000000) (hb : ∀ p ∈ l, p.n ≤ 1000000) :
    Calls Try.prog 13 #[.slice A n c, .string nm, .int .i64 t] w fun e w' => ∃ p' : Pr, e = .returned (.tuple #[.agg p'.cells, .bool true]) ∧ p'.fr = u.fr ∧ p'.fe = u.fe ∧ Below w.heap.size w w' :=
  (at_uni A n c l nm t (some u) ho true rfl w hA hn h6 hb).mono fun e w' ⟨p', he, _, hd, hb⟩ => ⟨p', he, hd.fr, hd.fe, hb⟩
theorem chn_le {b : Int} {U : Int → Option Pr} : ∀ {lo : Int} {fs : List Fd}, Chn b U lo fs → lo ≤ b
  | _, [], h => Int.le_of_eq h
  | lo, f :: fs, ⟨h1, h2, _, h3⟩ => by have := chn_le h3; omega
/-- Each of the fees of a chain. -/
theorem chn_at {b : Int} {U : Int → Option Pr} : ∀ {lo : Int} {fs : List Fd}, Chn b U lo fs → ∀ k, k < fs.length → lo ≤ (fs.getD k fd0).1 ∧ (fs.getD k fd0).1 < (fs.getD k fd0).2.1 ∧ (fs.getD k fd0).2.1 ≤ b ∧
      (∃ u, U (fs.getD k fd0).1 = some u ∧ U ((fs.getD k fd0).2.1 - 1) = some u ∧ u.fe = (fs.getD k fd0).2.2) ∧ (∀ j, k = j + 1 → (fs.getD j fd0).2.1 = (fs.getD k fd0).1)
  | _, [], _, k, hk => absurd hk (Nat.not_lt_zero k)
  | lo, f :: fs, ⟨h1, h2, h4, h3⟩, 0, _ => ⟨by show lo ≤ f.1; omega, h2, chn_le h3, h4, fun j hj => by omega⟩
  | lo, f :: fs, ⟨h1, h2, h4, h3⟩, k + 1, hk => by
    obtain ⟨g1, g2, g3, g4, g5⟩ := chn_at h3 k (by simpa using hk)
    refine ⟨by show lo ≤ (fs.getD k fd0).1; omega, g2, g3, g4, fun j hj => ?_⟩
    obtain rfl : k = j := by omega
    cases k with
    | zero =>
      show f.2.1 = (fs.getD 0 fd0).1
      cases fs with
      | nil => exact absurd hk (by simp)
      | cons f' fs' => exact h3.1.symm
    | succ m => exact g5 m rfl
theorem chn_first {b : Int} {U : Int → Option Pr} {lo : Int} {fs : List Fd} (h : Chn b U lo fs) (hk : 0 < fs.length) : (fs.getD 0 fd0).1 = lo := by
  cases fs with
  | nil => exact absurd hk (by simp)
  | cons f fs => exact h.1
theorem chn_last {b : Int} {U : Int → Option Pr} : ∀ {lo : Int} {fs : List Fd}, Chn b U lo fs → ∀ J, fs.length = J + 1 → (fs.getD J fd0).2.1 = b
  | _, [], _, J, hJ => by simp at hJ
  | lo, [f], h, J, hJ => by
    obtain rfl : J = 0 := by simpa using hJ.symm
    exact h.2.2.2
  | lo, f :: f' :: fs, h, J, hJ => by
    obtain ⟨m, rfl⟩ : ∃ m, J = m + 1 := ⟨fs.length, by simpa using hJ.symm⟩
    exact chn_last h.2.2.2 m (by simpa using hJ)
end Pd
set_option maxRecDepth 100000 in
set_option maxHeartbeats 32000000 in
theorem walkProductCovers (A : Option Addr) (n c : Nat) (l : List Pr) (nm : ByteArray) (a b : Int) (w : World) (hA : PrR w A l) (hn : l.length = n) (hc : n ≤ c) (hm : c ≤ maxLen) :
    Calls Try.prog 6 #[.slice A n c, .string nm, .agg #[.int .i64 a, .int .i64 b]] w fun e w' => e = .returned (.bool true) ∧ Below w.heap.size w w' := by
  obtain ⟨g, hg⟩ : ∃ g, w.heap.size = g := ⟨_, rfl⟩
  obtain ⟨L, hL⟩ : ∃ L, w.alloc (.cells #[.int .i64 a, .int .i64 b] 38) = L := ⟨_, rfl⟩
  have hbL : Below w.heap.size w L := hL ▸ below_one w _
  have hQ : Blk L g 38 #[.int .i64 a, .int .i64 b] := hL ▸ hg ▸ Blk.new w _ _
  obtain ⟨v, hv⟩ : ∃ v, fewB l = v := ⟨_, rfl⟩
  have HF := Lib.hid (few_is A n c l v hv L (hA.below hbL) hn hc hm)
  have HV := Lib.hid hv; have HA := Lib.hid (hA.below hbL); have HN := Lib.hid hn; have HBL := Lib.hid hbL; have HQ := Lib.hid hQ
  clear hA hn hc hm hv hbL hQ
  cases v
  · go_enter Try.func6, Try.ntmps6
    go_wp2_with (first
      | (go_at_call 8; (with_reducible refine HF.out.mono ?_); rintro e w1 ⟨rfl, rfl⟩)
      | (go_at_call 9; (with_reducible refine (awake_any _).mono ?_); rintro e w1 ⟨rfl, hb1⟩))
    go_ret
    exact ⟨rfl, HBL.out.trans (hb1.mono HBL.out.size)⟩
  have hle : n ≤ 1000000 := by have := few_len HV.out; have := HN.out; omega
  obtain ⟨u, hu⟩ : ∃ u, asc l = u := ⟨_, rfl⟩
  have HAS := Lib.hid (fun (W : World) (h : PrR W A l) => asc_is A n c l u hu W h HN.out hle)
  have HU := Lib.hid hu
  clear hu
  cases u
  · go_enter Try.func6, Try.ntmps6
    go_wp2_with (first
      | (go_at_call 8; (with_reducible refine HF.out.mono ?_); rintro e w1 ⟨rfl, rfl⟩)
      | (go_at_call 12; (with_reducible refine (HAS.out _ HA.out).mono ?_); rintro e w1 ⟨rfl, hb1⟩; have HB1 := Lib.hid (HBL.out.trans (hb1.mono HBL.out.size)); clear hb1)
      | (go_at_call 9; (with_reducible refine (awake_any _).mono ?_); rintro e w2 ⟨rfl, hb2⟩; have HB2 := Lib.hid (HB1.out.trans (hb2.mono HB1.out.size)); clear hb2))
    go_ret
    exact ⟨rfl, HB2.out⟩
  by_cases hno : a < 0 ∨ (¬ a < 0 ∧ b ≤ a) ∨ (¬ a < 0 ∧ ¬ b ≤ a ∧ 12622780800 < b)
  · have hw : decide (a < 0) = true ∨ (decide (a < 0) = false ∧ decide (b ≤ a) = true) ∨ (decide (a < 0) = false ∧ decide (b ≤ a) = false ∧ decide (12622780800 < b) = true) := by simp; omega
    clear hno
    rcases hw with x1 | ⟨x1, x2⟩ | ⟨x1, x2, x3⟩
    all_goals
      go_enter Try.func6, Try.ntmps6
      go_wp2_with (first
        | (go_at_call 8; (with_reducible refine HF.out.mono ?_); rintro e w1 ⟨rfl, rfl⟩)
        | (go_at_call 12; (with_reducible refine (HAS.out _ HA.out).mono ?_); rintro e w1 ⟨rfl, hb1⟩; have HB1 := Lib.hid (HBL.out.trans (hb1.mono HBL.out.size)); have HQ1 := Lib.hid (HQ.out.below hb1 HQ.out.lt); obtain ⟨c0, c1⟩ := HQ1.out.two; clear hb1)
        | (go_at_call 9; (with_reducible refine (awake_any _).mono ?_); rintro e w2 ⟨rfl, hb2⟩; have HB2 := Lib.hid (HB1.out.trans (hb2.mono HB1.out.size)); clear hb2))
      go_ret
      exact ⟨rfl, HB2.out⟩
  have hvl : vl a b = true := vl_yes (by omega) (by omega) (by omega)
  have hab : 0 ≤ a ∧ a < b ∧ b ≤ 12622780800 := ⟨by omega, by omega, by omega⟩
  have x1 : decide (a < 0) = false := decide_eq_false (by omega)
  have x2 : decide (b ≤ a) = false := decide_eq_false (by omega)
  have x3 : decide (12622780800 < b) = false := decide_eq_false (by omega)
  have hsm : ∀ p ∈ l, p.n ≤ 1000000 := fun p hp => by have := few_mem HV.out p hp; omega
  have hok := feesP_ok HU.out nm hvl
  have hNle := feesP_len l nm a b
  obtain ⟨Fs, hFs⟩ : ∃ Fs, feesP l nm a b = Fs := ⟨_, rfl⟩
  obtain ⟨N, hN⟩ : ∃ N, Fs.length = N := ⟨_, rfl⟩
  have HFE := Lib.hid (fun (W : World) (h : PrR W A l) => fees_is A n c l nm a b Fs hFs N hN W h HN.out hle)
  rw [hFs] at hok hNle
  have hNl : N ≤ 1000000 := by rw [hN, HN.out] at hNle; omega
  have HAT := Lib.hid (fun (t : Int) (hs : Bool) (hhs : (verA l nm t).isSome = hs) (W : World) (h : PrR W A l) => at_uni A n c l nm t _ rfl hs hhs W h HN.out hle hsm)
  have HAU := Lib.hid (fun (t : Int) (u : Pr) (ho : verA l nm t = some u) (W : World) (h : PrR W A l) => at_some A n c l nm t u ho W h HN.out hle hsm)
  have HLN := Lib.hid hN; have HAB := Lib.hid hab
  have wb : IntKind.i64.wrap (b - 1) = b - 1 := IntWalk.i64_in _ (by omega)
  obtain ⟨h1, hh1⟩ : ∃ h1, (verA l nm a).isSome = h1 := ⟨_, rfl⟩
  obtain ⟨h2, hh2⟩ : ∃ h2, (verA l nm (b - 1)).isSome = h2 := ⟨_, rfl⟩
  have HT1 := Lib.hid (HAT.out a h1 hh1); have HT2 := Lib.hid (HAT.out (b - 1) h2 hh2)
  have HH1 := Lib.hid hh1
  clear hno hvl hsm hFs hN hNle hab
  unfold FeeOk at hok
  rcases hok with ⟨hnil, hu1, hu2⟩ | ⟨hne, lo, hlo, hch, hl1, hl2⟩
  · obtain rfl : h1 = false := by rw [← hh1, hu1]; rfl
    obtain rfl : h2 = false := by rw [← hh2, hu2]; rfl
    obtain rfl : N = 0 := by rw [← HLN.out, hnil]; rfl
    clear hh1 hh2 hnil hu1 hu2
    go_enter Try.func6, Try.ntmps6
    go_wp2_with (first
      | (go_at_call 8; (with_reducible refine HF.out.mono ?_); rintro e w1 ⟨rfl, rfl⟩)
      | (go_at_call 12; (with_reducible refine (HAS.out _ HA.out).mono ?_); rintro e w1 ⟨rfl, hb1⟩; have HA1 := Lib.hid (HA.out.below hb1); have HB1 := Lib.hid (HBL.out.trans (hb1.mono HBL.out.size)); have HQ1 := Lib.hid (HQ.out.below hb1 HQ.out.lt); obtain ⟨c0, c1⟩ := HQ1.out.two; clear hb1)
      | (go_at_call 20; (with_reducible refine (HFE.out _ HA1.out).mono ?_); rintro e w2 ⟨B2, m2, rfl, -, -, hf2, hb2⟩; have HA2 := Lib.hid (HA1.out.below hb2); have HFD := Lib.hid hf2; have HB2 := Lib.hid (HB1.out.trans (hb2.mono HB1.out.size)); have HQ2 := Lib.hid (HQ1.out.below hb2 HQ1.out.lt); clear hb2 hf2 c0 c1; obtain ⟨c0, c1⟩ := HQ2.out.two)
      | (go_at_call 13; (with_reducible refine (HT1.out _ HA2.out).mono ?_); rintro e w3 ⟨p', rfl, -, -, hb3⟩; obtain ⟨an, afr, afe, aca, apr, aA, aN, aC, abs⟩ := p'; simp only [Pr.cells]; obtain ⟨W4, hW4⟩ : ∃ W4, w3.alloc (.cells #[.string an, .int .i64 afr, .int .i64 afe, .string aca, .bool apr, .slice aA aN aC] 29) = W4 := ⟨_, rfl⟩; have HB24 := Lib.hid (hb3.trans ((hW4 ▸ below_one w3 _ : Below w3.heap.size w3 W4).mono hb3.size)); have HQ4 := Lib.hid (HQ2.out.below HB24.out HQ2.out.lt); clear hb3 c0 c1; obtain ⟨c0, c1⟩ := HQ4.out.two)
      | (go_at_call 13; (with_reducible refine (HT2.out _ (HA2.out.below HB24.out)).mono ?_); rintro e w5 ⟨p', rfl, -, -, hb5⟩; obtain ⟨an', afr', afe', aca', apr', aA', aN', aC', abs'⟩ := p'; simp only [Pr.cells]; obtain ⟨W6, hW6⟩ : ∃ W6, w5.alloc (.cells #[.string an', .int .i64 afr', .int .i64 afe', .string aca', .bool apr', .slice aA' aN' aC'] 29) = W6 := ⟨_, rfl⟩; have HB26 := Lib.hid (HB24.out.trans ((hb5.trans ((hW6 ▸ below_one w5 _ : Below w5.heap.size w5 W6).mono hb5.size)).mono HB24.out.size)); have HQ6 := Lib.hid (HQ2.out.below HB26.out HQ2.out.lt); have HB6 := Lib.hid (HB2.out.trans (HB26.out.mono HB2.out.size)); clear hb5)
      | (go_at_call 9; (with_reducible refine (awake_any _).mono ?_); rintro e w9 ⟨rfl, hb9⟩; have HB9 := Lib.hid (HB6.out.trans (hb9.mono HB6.out.size)); clear hb9))
    go_ret
    exact ⟨rfl, HB9.out⟩
  · obtain ⟨J, rfl⟩ : ∃ J, N = J + 1 := ⟨Fs.length - 1, by have := List.length_pos_iff.2 hne; have := HLN.out; omega⟩
    have hz : ((J : Int) + 1 == 0) = false := by rw [beq_eq_false_iff_ne]; omega
    have HCH := Lib.hid hch; have HLO := Lib.hid hlo
    have HL1 := Lib.hid hl1; have HL2 := Lib.hid hl2
    clear hh1 hh2 hne hch hlo hl1 hl2
    go_enter Try.func6, Try.ntmps6
    go_wp2_with (first
      | (go_at_call 8; (with_reducible refine HF.out.mono ?_); rintro e w1 ⟨rfl, rfl⟩)
      | (go_at_call 12; (with_reducible refine (HAS.out _ HA.out).mono ?_); rintro e w1 ⟨rfl, hb1⟩; have HA1 := Lib.hid (HA.out.below hb1); have HB1 := Lib.hid (HBL.out.trans (hb1.mono HBL.out.size)); have HQ1 := Lib.hid (HQ.out.below hb1 HQ.out.lt); obtain ⟨c0, c1⟩ := HQ1.out.two; clear hb1)
      | (go_at_call 20; (with_reducible refine (HFE.out _ HA1.out).mono ?_); rintro e w2 ⟨B2, m2, rfl, -, -, hf2, hb2⟩; have HA2 := Lib.hid (HA1.out.below hb2); have HFD := Lib.hid hf2; have HB2 := Lib.hid (HB1.out.trans (hb2.mono HB1.out.size)); have HQ2 := Lib.hid (HQ1.out.below hb2 HQ1.out.lt); clear hb2 hf2 c0 c1; obtain ⟨c0, c1⟩ := HQ2.out.two)
      | (go_at_call 13; (with_reducible refine (HT1.out _ HA2.out).mono ?_); rintro e w3 ⟨p', rfl, -, -, hb3⟩; obtain ⟨an, afr, afe, aca, apr, aA, aN, aC, abs⟩ := p'; simp only [Pr.cells]; obtain ⟨W4, hW4⟩ : ∃ W4, w3.alloc (.cells #[.string an, .int .i64 afr, .int .i64 afe, .string aca, .bool apr, .slice aA aN aC] 29) = W4 := ⟨_, rfl⟩; have HB24 := Lib.hid (hb3.trans ((hW4 ▸ below_one w3 _ : Below w3.heap.size w3 W4).mono hb3.size)); have HQ4 := Lib.hid (HQ2.out.below HB24.out HQ2.out.lt); clear hb3 c0 c1; obtain ⟨c0, c1⟩ := HQ4.out.two)
      | (go_at_call 13; (with_reducible refine (HT2.out _ (HA2.out.below HB24.out)).mono ?_); rintro e w5 ⟨p', rfl, -, -, hb5⟩; obtain ⟨an', afr', afe', aca', apr', aA', aN', aC', abs'⟩ := p'; simp only [Pr.cells]; obtain ⟨W6, hW6⟩ : ∃ W6, w5.alloc (.cells #[.string an', .int .i64 afr', .int .i64 afe', .string aca', .bool apr', .slice aA' aN' aC'] 29) = W6 := ⟨_, rfl⟩; have HB26 := Lib.hid (HB24.out.trans ((hb5.trans ((hW6 ▸ below_one w5 _ : Below w5.heap.size w5 W6).mono hb5.size)).mono HB24.out.size)); have HQ6 := Lib.hid (HQ2.out.below HB26.out HQ2.out.lt); have HB6 := Lib.hid (HB2.out.trans (HB26.out.mono HB2.out.size)); clear hb5))
    clear x1 x2 x3 wb hL hg
    clear hW4 hW6 c0 c1
    obtain ⟨c0, c1⟩ := HQ6.out.two
    obtain ⟨bF, oF, hBF, hbF, f0, f1, f2⟩ := HFD.out 0 (by rw [HLN.out]; omega)
    subst hBF
    obtain ⟨_, _, hBJ, hbJ, k0, k1, k2⟩ := HFD.out J (by rw [HLN.out]; omega)
    obtain ⟨rfl, rfl⟩ : bF = _ ∧ oF = _ := by injection hBJ with h; injection h with h1 h2 h3; exact ⟨h1, h2⟩
    rw [chn_first HCH.out (by rw [HLN.out]; omega)] at f0
    rw [chn_last HCH.out J HLN.out] at k1
    have HC0 := Lib.hid (fun (W : World) (hb : Below w2.heap.size w2 W) => (hb.cell (p := ⟨bF, oF + 0 * 3, none⟩) hbF).trans f0)
    have f0' := (HB26.out.cell (p := ⟨bF, oF + 0 * 3, none⟩) hbF).trans f0
    rw [Nat.zero_mul, Nat.add_zero] at f0'
    have k1' := (HB26.out.cell (p := ⟨bF, oF + J * 3 + 1, none⟩) hbF).trans k1
    have r0 := cell_regrown f0'; have r1 := cell_regrown k1'; have r2 := cell_regrown c0; have r3 := cell_regrown c1
    have hwr : IntKind.i64.wrap ((((J + 1 : Nat) : Int)) - 1) = (J : Int) := by rw [show (((J + 1 : Nat) : Int)) - 1 = (J : Int) by omega]; exact IntWalk.i64_in _ (by omega)
    have hwr2 : IntKind.i64.wrap (J : Int) = (J : Int) := IntWalk.i64_in _ (by omega)
    have hj1 : (J : Int) < (J : Int) + 1 := by omega
    have hj2 : (0 : Int) < (J : Int) + 1 := by omega
    have hj3 : (0 : Int) ≤ (J : Int) := by omega
    have hq1 : (b != b) = false := by simp
    have hlo2 : h1 = false ∨ (h1 = true ∧ lo = a) := by
      cases h1 with
      | false => exact .inl rfl
      | true => exact .inr ⟨rfl, HL1.out (by intro h; have := HH1.out; rw [h] at this; cases this)⟩
    clear f0 f1 f2 k0 k1 k2 hBJ hbJ
    have HLO2 := Lib.hid hlo2
    have hcase : h1 = false ∨ (h1 = true ∧ (lo != a) = false) := by
      rcases hlo2 with h | ⟨h, h'⟩
      · exact .inl h
      · exact .inr ⟨h, by simp [h']⟩
    have HBF := Lib.hid hbF
    clear hlo2 hbF f0' k1' hz
    rcases hcase with rfl | ⟨rfl, hq2⟩
    · refine wp_region_quiet_below (by kernel_rfl) (by kernel_rfl) ?_
      iterate 24 (go_big_quiet_step (fail))
      refine wpQuiet_nil ?_
      intro Wq hw'
      have HBQ : Hid (Below W6.heap.size W6 Wq) := Lib.hid (by obtain ⟨⟨dq, osq⟩, hw''⟩ := hw'; rw [hw'']; exact below_regrown _ _ _)
      clear hw'
      go_wp2_with fail
      have HBQ2 := Lib.hid (HB26.out.trans (HBQ.out.mono HB26.out.size))
      clear r0 r1 r2 r3 c0 c1
      go_loopw [12] (fun iv wr => ∃ k : Nat, iv = .int .i64 k ∧ k ≤ J + 1 ∧ Hid (Below w2.heap.size w2 wr)) (fun iv _ => J + 1 - (intOf iv).toNat)
      case atStart => exact ⟨0, rfl, by omega, HBQ2⟩
      case round =>
        obtain ⟨k, rfl, hk, HBr⟩ := hrel
        by_cases hlt : k < J + 1
        · have hkl : k < Fs.length := by rw [HLN.out]; exact hlt
          have hlt' : (k : Int) < (J : Int) + 1 := by omega
          obtain ⟨_, _, hBk, hbk, f0, f1, f2⟩ := HFD.out k hkl
          obtain ⟨rfl, rfl⟩ : bF = _ ∧ oF = _ := by injection hBk with h; injection h with h1 h2 h3; exact ⟨h1, h2⟩
          obtain ⟨g1, g2, g3, ⟨u, u1, u2, u3⟩, g4⟩ := chn_at HCH.out k hkl
          have HG4 := Lib.hid g4
          obtain ⟨⟨x, y, z⟩, hp⟩ : ∃ p, Fs.getD k fd0 = p := ⟨_, rfl⟩
          rw [hp] at f0 f1 f2 g1 g2 g3 u1 u2 u3 HG4
          simp only at f0 f1 f2 g1 g2 g3 u1 u2 u3 HG4
          have HC := Lib.hid (fun (W : World) (hb : Below w2.heap.size w2 W) => (show W.cell? ⟨bF, oF + k * 3, none⟩ = some (.int .i64 x) ∧ W.cell? ⟨bF, oF + k * 3 + 1, none⟩ = some (.int .i64 y) ∧ W.cell? ⟨bF, oF + k * 3 + 2, none⟩ = some (.int .i64 z) from ⟨(hb.cell (p := ⟨bF, oF + k * 3, none⟩) hbk).trans f0, (hb.cell (p := ⟨bF, oF + k * 3 + 1, none⟩) hbk).trans f1, (hb.cell (p := ⟨bF, oF + k * 3 + 2, none⟩) hbk).trans f2⟩))
          have HU1 := Lib.hid (HAU.out x u u1); have HU2 := Lib.hid (HAU.out (y - 1) u u2)
          obtain ⟨uf, huf⟩ : ∃ uf, u.fr = uf := ⟨_, rfl⟩
          rw [huf, u3] at HU1 HU2
          have hlo := HLO.out; have hab := HAB.out
          have q1 : decide (x < a) = false := decide_eq_false (by omega)
          have q2 : decide (y ≤ x) = false := decide_eq_false (by omega)
          have q3 : (x != x) = false := by simp
          have q4 : (z != z) = false := by simp
          have q5 : (uf != uf) = false := by simp
          have wy : IntKind.i64.wrap (y - 1) = y - 1 := IntWalk.i64_in _ (by omega)
          obtain ⟨R, hR⟩ : ∃ R, wr.alloc (.cells #[.int .i64 x, .int .i64 y] 38) = R := ⟨_, rfl⟩
          obtain ⟨q, hq⟩ : ∃ q, wr.heap.size = q := ⟨_, rfl⟩
          have hbR : Below wr.heap.size wr R := hR ▸ below_one wr _
          have hqR : Blk R q 38 #[.int .i64 x, .int .i64 y] := hR ▸ hq ▸ Blk.new wr _ _
          have HBR := Lib.hid (HBr.out.trans (hbR.mono HBr.out.size)); have HQR := Lib.hid hqR
          obtain ⟨e0, e1, e2⟩ := HC.out _ HBr.out
          obtain ⟨s0, s1⟩ := hqR.two
          have HKL := Lib.hid hkl
          clear hBk hbk f0 f1 f2 g1 g2 g3 u1 u2 u3 hp hbR hqR hkl hlo hab huf g4
          by_cases hk0 : k = 0
          · have hk1 : ¬ ((0 : Int) < (k : Int)) := by omega
            have hk2 : decide ((0 : Int) < (k : Int)) = false := decide_eq_false hk1
            have hk3 : ¬ (0 < k) := by omega
            have hk4 : decide (0 < k) = false := decide_eq_false hk3
            clear hk0
            go_wp2_with (first
              | (go_at_call 13; (with_reducible refine (HU1.out _ (HA2.out.below HBR.out)).mono ?_); rintro e w7 ⟨p', rfl, hfr, hfe, hb7⟩; obtain ⟨bn, bfr, bfe, bca, bpr, bA, bN, bC, bbs⟩ := p'; simp only at hfr hfe; subst hfr hfe; simp only [Pr.cells]; obtain ⟨W8, hW8⟩ : ∃ W8, w7.alloc (.cells #[.string bn, .int .i64 bfr, .int .i64 bfe, .string bca, .bool bpr, .slice bA bN bC] 29) = W8 := ⟨_, rfl⟩; obtain ⟨q8, hq8⟩ : ∃ q8, w7.heap.size = q8 := ⟨_, rfl⟩; have hw8 : Below w7.heap.size w7 W8 := (hW8 ▸ below_one w7 _); have hb8 := hb7.trans (hw8.mono hb7.size); have HB8 := Lib.hid (HBR.out.trans (hb8.mono HBR.out.size)); have HQ8 := Lib.hid (HQR.out.below hb8 HQR.out.lt); have HP8 : Hid (Blk W8 q8 29 #[.string bn, .int .i64 bfr, .int .i64 bfe, .string bca, .bool bpr, .slice bA bN bC]) := Lib.hid (hW8 ▸ hq8 ▸ Blk.new w7 _ _); clear hb7 hb8 hw8 s0 s1; obtain ⟨s0, s1⟩ := HQ8.out.two)
              | (go_at_call 13; (with_reducible refine (HU2.out _ (HA2.out.below HB8.out)).mono ?_); rintro e w9 ⟨p', rfl, hfr, hfe, hb9⟩; obtain ⟨dn, dfr, dfe, dca, dpr, dA, dN, dC, dbs⟩ := p'; simp only at hfr hfe; subst hfr hfe; simp only [Pr.cells]; obtain ⟨W10, hW10⟩ : ∃ W10, w9.alloc (.cells #[.string dn, .int .i64 dfr, .int .i64 dfe, .string dca, .bool dpr, .slice dA dN dC] 29) = W10 := ⟨_, rfl⟩; obtain ⟨q10, hq10⟩ : ∃ q10, w9.heap.size = q10 := ⟨_, rfl⟩; have hw10 : Below w9.heap.size w9 W10 := (hW10 ▸ below_one w9 _); have hb10 := hb9.trans (hw10.mono hb9.size); have HB10 := Lib.hid (HB8.out.trans (hb10.mono HB8.out.size)); obtain ⟨-, m1, m2, -, -, -⟩ := (HP8.out.below hb10 HP8.out.lt).six; obtain ⟨-, n1, n2, -, -, -⟩ := (show Blk W10 q10 29 #[.string dn, .int .i64 dfr, .int .i64 dfe, .string dca, .bool dpr, .slice dA dN dC] from (hW10 ▸ hq10 ▸ Blk.new w9 _ _)).six; obtain ⟨i0, i1⟩ := (HQ8.out.below hb10 HQ8.out.lt).two; obtain ⟨o0, o1⟩ := (HQ2.out.below HB10.out HQ2.out.lt).two; obtain ⟨-, -, l2⟩ := HC.out _ HB10.out; have t0 := cell_regrown m1; have t1 := cell_regrown m2; have t2 := cell_regrown n1; have t3 := cell_regrown n2; have t4 := cell_regrown i0; have t5 := cell_regrown i1; have t6 := cell_regrown o0; have t7 := cell_regrown o1; have t8 := cell_regrown l2; clear hb9 hb10 hw10))
            refine wp_region_quiet_below (by kernel_rfl) (by kernel_rfl) ?_
            iterate 63 (go_big_quiet_step (fail))
            refine wpQuiet_nil ?_
            intro Wq hw'
            have HBQ3 : Hid (Below W10.heap.size W10 Wq) := Lib.hid (by obtain ⟨⟨dq, osq⟩, hw''⟩ := hw'; rw [hw'']; exact below_regrown _ _ _)
            clear hw'
            go_wp2_with fail
            go_roundw
            case rel => exact ⟨k + 1, by go_num, by omega, Lib.hid (HB10.out.trans (HBQ3.out.mono HB10.out.size))⟩
            case measure => simp [intOf]; omega
          · obtain ⟨j, rfl⟩ : ∃ j, k = j + 1 := ⟨k - 1, by omega⟩
            obtain ⟨_, _, hBj, hbj, -, y1, -⟩ := HFD.out j (by have := HKL.out; omega)
            obtain ⟨rfl, rfl⟩ : bF = _ ∧ oF = _ := by injection hBj with h; injection h with h1 h2 h3; exact ⟨h1, h2⟩
            rw [HG4.out j rfl] at y1
            have HCJ := Lib.hid (fun (W : World) (hb : Below w2.heap.size w2 W) => (hb.cell (p := ⟨bF, oF + j * 3 + 1, none⟩) hbj).trans y1)
            have hwj : IntKind.i64.wrap ((((j + 1 : Nat) : Int)) - 1) = (j : Int) := by rw [show (((j + 1 : Nat) : Int)) - 1 = (j : Int) by omega]; exact IntWalk.i64_in _ (by omega)
            have hwj2 : IntKind.i64.wrap (j : Int) = (j : Int) := IntWalk.i64_in _ (by omega)
            have hm1 : (j : Int) < (J : Int) + 1 := by omega
            have hm2 : (0 : Int) ≤ (j : Int) := by omega
            have hm3 : (0 : Int) < (j : Int) + 1 := by omega
            have hm4 : decide ((0 : Int) < (j : Int) + 1) = true := decide_eq_true hm3
            have hm5 : (0 : Int) ≤ (j : Int) + 1 := by omega
            have hm6 : (j : Int) + 1 < (J : Int) + 1 := by omega
            have hm7 : ((j : Int) + 1).toNat = j + 1 := by omega
            clear hBj hbj y1
            go_wp2_with (first
              | (go_at_call 13; (with_reducible refine (HU1.out _ (HA2.out.below HBR.out)).mono ?_); rintro e w7 ⟨p', rfl, hfr, hfe, hb7⟩; obtain ⟨bn, bfr, bfe, bca, bpr, bA, bN, bC, bbs⟩ := p'; simp only at hfr hfe; subst hfr hfe; simp only [Pr.cells]; obtain ⟨W8, hW8⟩ : ∃ W8, w7.alloc (.cells #[.string bn, .int .i64 bfr, .int .i64 bfe, .string bca, .bool bpr, .slice bA bN bC] 29) = W8 := ⟨_, rfl⟩; obtain ⟨q8, hq8⟩ : ∃ q8, w7.heap.size = q8 := ⟨_, rfl⟩; have hw8 : Below w7.heap.size w7 W8 := (hW8 ▸ below_one w7 _); have hb8 := hb7.trans (hw8.mono hb7.size); have HB8 := Lib.hid (HBR.out.trans (hb8.mono HBR.out.size)); have HQ8 := Lib.hid (HQR.out.below hb8 HQR.out.lt); have HP8 : Hid (Blk W8 q8 29 #[.string bn, .int .i64 bfr, .int .i64 bfe, .string bca, .bool bpr, .slice bA bN bC]) := Lib.hid (hW8 ▸ hq8 ▸ Blk.new w7 _ _); clear hb7 hb8 hw8 s0 s1; obtain ⟨s0, s1⟩ := HQ8.out.two)
              | (go_at_call 13; (with_reducible refine (HU2.out _ (HA2.out.below HB8.out)).mono ?_); rintro e w9 ⟨p', rfl, hfr, hfe, hb9⟩; obtain ⟨dn, dfr, dfe, dca, dpr, dA, dN, dC, dbs⟩ := p'; simp only at hfr hfe; subst hfr hfe; simp only [Pr.cells]; obtain ⟨W10, hW10⟩ : ∃ W10, w9.alloc (.cells #[.string dn, .int .i64 dfr, .int .i64 dfe, .string dca, .bool dpr, .slice dA dN dC] 29) = W10 := ⟨_, rfl⟩; obtain ⟨q10, hq10⟩ : ∃ q10, w9.heap.size = q10 := ⟨_, rfl⟩; have hw10 : Below w9.heap.size w9 W10 := (hW10 ▸ below_one w9 _); have hb10 := hb9.trans (hw10.mono hb9.size); have HB10 := Lib.hid (HB8.out.trans (hb10.mono HB8.out.size)); obtain ⟨-, m1, m2, -, -, -⟩ := (HP8.out.below hb10 HP8.out.lt).six; obtain ⟨-, n1, n2, -, -, -⟩ := (show Blk W10 q10 29 #[.string dn, .int .i64 dfr, .int .i64 dfe, .string dca, .bool dpr, .slice dA dN dC] from (hW10 ▸ hq10 ▸ Blk.new w9 _ _)).six; obtain ⟨i0, i1⟩ := (HQ8.out.below hb10 HQ8.out.lt).two; obtain ⟨o0, o1⟩ := (HQ2.out.below HB10.out HQ2.out.lt).two; obtain ⟨-, -, l2⟩ := HC.out _ HB10.out; have t0 := cell_regrown m1; have t1 := cell_regrown m2; have t2 := cell_regrown n1; have t3 := cell_regrown n2; have t4 := cell_regrown i0; have t5 := cell_regrown i1; have t6 := cell_regrown o0; have t7 := cell_regrown o1; have t8 := cell_regrown l2; clear hb9 hb10 hw10; have r9 := cell_regrown (HCJ.out _ HB10.out)))
            refine wp_region_quiet_below (by kernel_rfl) (by kernel_rfl) ?_
            iterate 63 (go_big_quiet_step (fail))
            refine wpQuiet_nil ?_
            intro Wq hw'
            have HBQ3 : Hid (Below W10.heap.size W10 Wq) := Lib.hid (by obtain ⟨⟨dq, osq⟩, hw''⟩ := hw'; rw [hw'']; exact below_regrown _ _ _)
            clear hw'
            go_wp2_with fail
            go_roundw
            case rel => exact ⟨j + 1 + 1, by go_num, by omega, Lib.hid (HB10.out.trans (HBQ3.out.mono HB10.out.size))⟩
            case measure => simp [intOf]; omega
        · obtain rfl : k = J + 1 := by omega
          have hlt2 : ¬ ((J : Int) + 1 < (J : Int) + 1) := by omega
          have hlt3 : decide ((J : Int) + 1 < (J : Int) + 1) = false := decide_eq_false hlt2
          have hnone : (verA l nm (lo - 1)).isSome = false := by
            rw [HL2.out (by have := HH1.out; cases h : verA l nm a with | none => rfl | some p => rw [h] at this; cases this)]; rfl
          have HT3 := Lib.hid (HAT.out (lo - 1) false hnone)
          have wl : IntKind.i64.wrap (lo - 1) = lo - 1 := by have := HLO.out; have := HAB.out; have := chn_le HCH.out; exact IntWalk.i64_in _ (by omega)
          have f9 := HC0.out _ HBr.out
          rw [Nat.zero_mul, Nat.add_zero] at f9
          clear hnone hlt
          go_wp2_with (first
            | (go_at_call 13; (with_reducible refine (HT3.out _ (HA2.out.below HBr.out)).mono ?_); rintro e w11 ⟨p', rfl, -, -, hb11⟩; obtain ⟨dn, dfr, dfe, dca, dpr, dA, dN, dC, dbs⟩ := p'; simp only [Pr.cells]; obtain ⟨W12, hW12⟩ : ∃ W12, w11.alloc (.cells #[.string dn, .int .i64 dfr, .int .i64 dfe, .string dca, .bool dpr, .slice dA dN dC] 29) = W12 := ⟨_, rfl⟩; have HB12 := Lib.hid (HBr.out.trans ((hb11.trans ((hW12 ▸ below_one w11 _ : Below w11.heap.size w11 W12).mono hb11.size)).mono HBr.out.size)); clear hb11)
            | (go_at_call 9; (with_reducible refine (awake_any _).mono ?_); rintro e w13 ⟨rfl, hb13⟩; have HB13 := Lib.hid (HB12.out.trans (hb13.mono HB12.out.size)); clear hb13))
          go_ret
          exact ⟨rfl, HB2.out.trans (HB13.out.mono HB2.out.size)⟩
    · refine wp_region_quiet_below (by kernel_rfl) (by kernel_rfl) ?_
      iterate 24 (go_big_quiet_step (fail))
      refine wpQuiet_nil ?_
      intro Wq hw'
      have HBQ : Hid (Below W6.heap.size W6 Wq) := Lib.hid (by obtain ⟨⟨dq, osq⟩, hw''⟩ := hw'; rw [hw'']; exact below_regrown _ _ _)
      clear hw'
      go_wp2_with fail
      have HBQ2 := Lib.hid (HB26.out.trans (HBQ.out.mono HB26.out.size))
      clear r0 r1 r2 r3 c0 c1
      go_loopw [12] (fun iv wr => ∃ k : Nat, iv = .int .i64 k ∧ k ≤ J + 1 ∧ Hid (Below w2.heap.size w2 wr)) (fun iv _ => J + 1 - (intOf iv).toNat)
      case atStart => exact ⟨0, rfl, by omega, HBQ2⟩
      case round =>
        obtain ⟨k, rfl, hk, HBr⟩ := hrel
        by_cases hlt : k < J + 1
        · have hkl : k < Fs.length := by rw [HLN.out]; exact hlt
          have hlt' : (k : Int) < (J : Int) + 1 := by omega
          obtain ⟨_, _, hBk, hbk, f0, f1, f2⟩ := HFD.out k hkl
          obtain ⟨rfl, rfl⟩ : bF = _ ∧ oF = _ := by injection hBk with h; injection h with h1 h2 h3; exact ⟨h1, h2⟩
          obtain ⟨g1, g2, g3, ⟨u, u1, u2, u3⟩, g4⟩ := chn_at HCH.out k hkl
          have HG4 := Lib.hid g4
          obtain ⟨⟨x, y, z⟩, hp⟩ : ∃ p, Fs.getD k fd0 = p := ⟨_, rfl⟩
          rw [hp] at f0 f1 f2 g1 g2 g3 u1 u2 u3 HG4
          simp only at f0 f1 f2 g1 g2 g3 u1 u2 u3 HG4
          have HC := Lib.hid (fun (W : World) (hb : Below w2.heap.size w2 W) => (show W.cell? ⟨bF, oF + k * 3, none⟩ = some (.int .i64 x) ∧ W.cell? ⟨bF, oF + k * 3 + 1, none⟩ = some (.int .i64 y) ∧ W.cell? ⟨bF, oF + k * 3 + 2, none⟩ = some (.int .i64 z) from ⟨(hb.cell (p := ⟨bF, oF + k * 3, none⟩) hbk).trans f0, (hb.cell (p := ⟨bF, oF + k * 3 + 1, none⟩) hbk).trans f1, (hb.cell (p := ⟨bF, oF + k * 3 + 2, none⟩) hbk).trans f2⟩))
          have HU1 := Lib.hid (HAU.out x u u1); have HU2 := Lib.hid (HAU.out (y - 1) u u2)
          obtain ⟨uf, huf⟩ : ∃ uf, u.fr = uf := ⟨_, rfl⟩
          rw [huf, u3] at HU1 HU2
          have hlo := HLO.out; have hab := HAB.out
          have q1 : decide (x < a) = false := decide_eq_false (by omega)
          have q2 : decide (y ≤ x) = false := decide_eq_false (by omega)
          have q3 : (x != x) = false := by simp
          have q4 : (z != z) = false := by simp
          have q5 : (uf != uf) = false := by simp
          have wy : IntKind.i64.wrap (y - 1) = y - 1 := IntWalk.i64_in _ (by omega)
          obtain ⟨R, hR⟩ : ∃ R, wr.alloc (.cells #[.int .i64 x, .int .i64 y] 38) = R := ⟨_, rfl⟩
          obtain ⟨q, hq⟩ : ∃ q, wr.heap.size = q := ⟨_, rfl⟩
          have hbR : Below wr.heap.size wr R := hR ▸ below_one wr _
          have hqR : Blk R q 38 #[.int .i64 x, .int .i64 y] := hR ▸ hq ▸ Blk.new wr _ _
          have HBR := Lib.hid (HBr.out.trans (hbR.mono HBr.out.size)); have HQR := Lib.hid hqR
          obtain ⟨e0, e1, e2⟩ := HC.out _ HBr.out
          obtain ⟨s0, s1⟩ := hqR.two
          have HKL := Lib.hid hkl
          clear hBk hbk f0 f1 f2 g1 g2 g3 u1 u2 u3 hp hbR hqR hkl hlo hab huf g4
          by_cases hk0 : k = 0
          · have hk1 : ¬ ((0 : Int) < (k : Int)) := by omega
            have hk2 : decide ((0 : Int) < (k : Int)) = false := decide_eq_false hk1
            have hk3 : ¬ (0 < k) := by omega
            have hk4 : decide (0 < k) = false := decide_eq_false hk3
            clear hk0
            go_wp2_with (first
              | (go_at_call 13; (with_reducible refine (HU1.out _ (HA2.out.below HBR.out)).mono ?_); rintro e w7 ⟨p', rfl, hfr, hfe, hb7⟩; obtain ⟨bn, bfr, bfe, bca, bpr, bA, bN, bC, bbs⟩ := p'; simp only at hfr hfe; subst hfr hfe; simp only [Pr.cells]; obtain ⟨W8, hW8⟩ : ∃ W8, w7.alloc (.cells #[.string bn, .int .i64 bfr, .int .i64 bfe, .string bca, .bool bpr, .slice bA bN bC] 29) = W8 := ⟨_, rfl⟩; obtain ⟨q8, hq8⟩ : ∃ q8, w7.heap.size = q8 := ⟨_, rfl⟩; have hw8 : Below w7.heap.size w7 W8 := (hW8 ▸ below_one w7 _); have hb8 := hb7.trans (hw8.mono hb7.size); have HB8 := Lib.hid (HBR.out.trans (hb8.mono HBR.out.size)); have HQ8 := Lib.hid (HQR.out.below hb8 HQR.out.lt); have HP8 : Hid (Blk W8 q8 29 #[.string bn, .int .i64 bfr, .int .i64 bfe, .string bca, .bool bpr, .slice bA bN bC]) := Lib.hid (hW8 ▸ hq8 ▸ Blk.new w7 _ _); clear hb7 hb8 hw8 s0 s1; obtain ⟨s0, s1⟩ := HQ8.out.two)
              | (go_at_call 13; (with_reducible refine (HU2.out _ (HA2.out.below HB8.out)).mono ?_); rintro e w9 ⟨p', rfl, hfr, hfe, hb9⟩; obtain ⟨dn, dfr, dfe, dca, dpr, dA, dN, dC, dbs⟩ := p'; simp only at hfr hfe; subst hfr hfe; simp only [Pr.cells]; obtain ⟨W10, hW10⟩ : ∃ W10, w9.alloc (.cells #[.string dn, .int .i64 dfr, .int .i64 dfe, .string dca, .bool dpr, .slice dA dN dC] 29) = W10 := ⟨_, rfl⟩; obtain ⟨q10, hq10⟩ : ∃ q10, w9.heap.size = q10 := ⟨_, rfl⟩; have hw10 : Below w9.heap.size w9 W10 := (hW10 ▸ below_one w9 _); have hb10 := hb9.trans (hw10.mono hb9.size); have HB10 := Lib.hid (HB8.out.trans (hb10.mono HB8.out.size)); obtain ⟨-, m1, m2, -, -, -⟩ := (HP8.out.below hb10 HP8.out.lt).six; obtain ⟨-, n1, n2, -, -, -⟩ := (show Blk W10 q10 29 #[.string dn, .int .i64 dfr, .int .i64 dfe, .string dca, .bool dpr, .slice dA dN dC] from (hW10 ▸ hq10 ▸ Blk.new w9 _ _)).six; obtain ⟨i0, i1⟩ := (HQ8.out.below hb10 HQ8.out.lt).two; obtain ⟨o0, o1⟩ := (HQ2.out.below HB10.out HQ2.out.lt).two; obtain ⟨-, -, l2⟩ := HC.out _ HB10.out; have t0 := cell_regrown m1; have t1 := cell_regrown m2; have t2 := cell_regrown n1; have t3 := cell_regrown n2; have t4 := cell_regrown i0; have t5 := cell_regrown i1; have t6 := cell_regrown o0; have t7 := cell_regrown o1; have t8 := cell_regrown l2; clear hb9 hb10 hw10))
            refine wp_region_quiet_below (by kernel_rfl) (by kernel_rfl) ?_
            iterate 63 (go_big_quiet_step (fail))
            refine wpQuiet_nil ?_
            intro Wq hw'
            have HBQ3 : Hid (Below W10.heap.size W10 Wq) := Lib.hid (by obtain ⟨⟨dq, osq⟩, hw''⟩ := hw'; rw [hw'']; exact below_regrown _ _ _)
            clear hw'
            go_wp2_with fail
            go_roundw
            case rel => exact ⟨k + 1, by go_num, by omega, Lib.hid (HB10.out.trans (HBQ3.out.mono HB10.out.size))⟩
            case measure => simp [intOf]; omega
          · obtain ⟨j, rfl⟩ : ∃ j, k = j + 1 := ⟨k - 1, by omega⟩
            obtain ⟨_, _, hBj, hbj, -, y1, -⟩ := HFD.out j (by have := HKL.out; omega)
            obtain ⟨rfl, rfl⟩ : bF = _ ∧ oF = _ := by injection hBj with h; injection h with h1 h2 h3; exact ⟨h1, h2⟩
            rw [HG4.out j rfl] at y1
            have HCJ := Lib.hid (fun (W : World) (hb : Below w2.heap.size w2 W) => (hb.cell (p := ⟨bF, oF + j * 3 + 1, none⟩) hbj).trans y1)
            have hwj : IntKind.i64.wrap ((((j + 1 : Nat) : Int)) - 1) = (j : Int) := by rw [show (((j + 1 : Nat) : Int)) - 1 = (j : Int) by omega]; exact IntWalk.i64_in _ (by omega)
            have hwj2 : IntKind.i64.wrap (j : Int) = (j : Int) := IntWalk.i64_in _ (by omega)
            have hm1 : (j : Int) < (J : Int) + 1 := by omega
            have hm2 : (0 : Int) ≤ (j : Int) := by omega
            have hm3 : (0 : Int) < (j : Int) + 1 := by omega
            have hm4 : decide ((0 : Int) < (j : Int) + 1) = true := decide_eq_true hm3
            have hm5 : (0 : Int) ≤ (j : Int) + 1 := by omega
            have hm6 : (j : Int) + 1 < (J : Int) + 1 := by omega
            have hm7 : ((j : Int) + 1).toNat = j + 1 := by omega
            clear hBj hbj y1
            go_wp2_with (first
              | (go_at_call 13; (with_reducible refine (HU1.out _ (HA2.out.below HBR.out)).mono ?_); rintro e w7 ⟨p', rfl, hfr, hfe, hb7⟩; obtain ⟨bn, bfr, bfe, bca, bpr, bA, bN, bC, bbs⟩ := p'; simp only at hfr hfe; subst hfr hfe; simp only [Pr.cells]; obtain ⟨W8, hW8⟩ : ∃ W8, w7.alloc (.cells #[.string bn, .int .i64 bfr, .int .i64 bfe, .string bca, .bool bpr, .slice bA bN bC] 29) = W8 := ⟨_, rfl⟩; obtain ⟨q8, hq8⟩ : ∃ q8, w7.heap.size = q8 := ⟨_, rfl⟩; have hw8 : Below w7.heap.size w7 W8 := (hW8 ▸ below_one w7 _); have hb8 := hb7.trans (hw8.mono hb7.size); have HB8 := Lib.hid (HBR.out.trans (hb8.mono HBR.out.size)); have HQ8 := Lib.hid (HQR.out.below hb8 HQR.out.lt); have HP8 : Hid (Blk W8 q8 29 #[.string bn, .int .i64 bfr, .int .i64 bfe, .string bca, .bool bpr, .slice bA bN bC]) := Lib.hid (hW8 ▸ hq8 ▸ Blk.new w7 _ _); clear hb7 hb8 hw8 s0 s1; obtain ⟨s0, s1⟩ := HQ8.out.two)
              | (go_at_call 13; (with_reducible refine (HU2.out _ (HA2.out.below HB8.out)).mono ?_); rintro e w9 ⟨p', rfl, hfr, hfe, hb9⟩; obtain ⟨dn, dfr, dfe, dca, dpr, dA, dN, dC, dbs⟩ := p'; simp only at hfr hfe; subst hfr hfe; simp only [Pr.cells]; obtain ⟨W10, hW10⟩ : ∃ W10, w9.alloc (.cells #[.string dn, .int .i64 dfr, .int .i64 dfe, .string dca, .bool dpr, .slice dA dN dC] 29) = W10 := ⟨_, rfl⟩; obtain ⟨q10, hq10⟩ : ∃ q10, w9.heap.size = q10 := ⟨_, rfl⟩; have hw10 : Below w9.heap.size w9 W10 := (hW10 ▸ below_one w9 _); have hb10 := hb9.trans (hw10.mono hb9.size); have HB10 := Lib.hid (HB8.out.trans (hb10.mono HB8.out.size)); obtain ⟨-, m1, m2, -, -, -⟩ := (HP8.out.below hb10 HP8.out.lt).six; obtain ⟨-, n1, n2, -, -, -⟩ := (show Blk W10 q10 29 #[.string dn, .int .i64 dfr, .int .i64 dfe, .string dca, .bool dpr, .slice dA dN dC] from (hW10 ▸ hq10 ▸ Blk.new w9 _ _)).six; obtain ⟨i0, i1⟩ := (HQ8.out.below hb10 HQ8.out.lt).two; obtain ⟨o0, o1⟩ := (HQ2.out.below HB10.out HQ2.out.lt).two; obtain ⟨-, -, l2⟩ := HC.out _ HB10.out; have t0 := cell_regrown m1; have t1 := cell_regrown m2; have t2 := cell_regrown n1; have t3 := cell_regrown n2; have t4 := cell_regrown i0; have t5 := cell_regrown i1; have t6 := cell_regrown o0; have t7 := cell_regrown o1; have t8 := cell_regrown l2; clear hb9 hb10 hw10; have r9 := cell_regrown (HCJ.out _ HB10.out)))
            refine wp_region_quiet_below (by kernel_rfl) (by kernel_rfl) ?_
            iterate 63 (go_big_quiet_step (fail))
            refine wpQuiet_nil ?_
            intro Wq hw'
            have HBQ3 : Hid (Below W10.heap.size W10 Wq) := Lib.hid (by obtain ⟨⟨dq, osq⟩, hw''⟩ := hw'; rw [hw'']; exact below_regrown _ _ _)
            clear hw'
            go_wp2_with fail
            go_roundw
            case rel => exact ⟨j + 1 + 1, by go_num, by omega, Lib.hid (HB10.out.trans (HBQ3.out.mono HB10.out.size))⟩
            case measure => simp [intOf]; omega
        · obtain rfl : k = J + 1 := by omega
          have hlt2 : ¬ ((J : Int) + 1 < (J : Int) + 1) := by omega
          have hlt3 : decide ((J : Int) + 1 < (J : Int) + 1) = false := decide_eq_false hlt2
          clear hlt
          go_wp2_with (go_at_call 9; (with_reducible refine (awake_any _).mono ?_); rintro e w13 ⟨rfl, hb13⟩; have HB13 := Lib.hid (HBr.out.trans (hb13.mono HBr.out.size)); clear hb13)
          go_ret
          exact ⟨rfl, HB2.out.trans (HB13.out.mono HB2.out.size)⟩
end Go.Proofs.Ythjckkcafhiomaa
