/- Walk of the law on the longest beginning. -/
import Derived.Test.YtflonakoagjmhaaZnCa
namespace Go.Proofs.Ytflonakoagjmhaa.Zn
open Go.RowKit Go.Lib Go.Shelf Go.Proofs.Ytflonakoagjmhaa Go.Maps

/-- The longest of the prefixes of s; nothing if there is none. -/
def Lg (D : List (Wd × Wd)) (s want : Wd) : Prop := (want = [] ∨ ∃ m, (want, m) ∈ D ∧ Lib.hasPrefix s want = true) ∧ ∀ p m, (p, m) ∈ D → Lib.hasPrefix s p = true → p.length ≤ want.length
theorem Lg.nil (s : Wd) : Lg [] s [] := ⟨.inl rfl, fun p m h => by simp at h⟩
theorem Lg.yes {D : List (Wd × Wd)} {s want p m : Wd} (h : Lg D s want) (hn : want.length < p.length) (hp : Lib.hasPrefix s p = true) : Lg (D ++ [(p, m)]) s p := by
  refine ⟨.inr ⟨m, by simp, hp⟩, fun q k hq hs => ?_⟩
  rcases List.mem_append.1 hq with hq | hq
  · have := h.2 q k hq hs; omega
  · have := List.mem_singleton.1 hq
    injection this with h1 h2
    rw [h1]; exact Nat.le_refl _
theorem Lg.no {D : List (Wd × Wd)} {s want p m : Wd} (h : Lg D s want) (hn : p.length ≤ want.length ∨ Lib.hasPrefix s p = false) : Lg (D ++ [(p, m)]) s want := by
  refine ⟨?_, fun q k hq hs => ?_⟩
  · rcases h.1 with h1 | ⟨m', h1, h2⟩
    · exact .inl h1
    · exact .inr ⟨m', List.mem_append.2 (.inl h1), h2⟩
  · rcases List.mem_append.1 hq with hq | hq
    · exact h.2 q k hq hs
    · have := List.mem_singleton.1 hq
      injection this with h1 h2
      subst h1
      rcases hn with hn | hn
      · exact hn
      · rw [hn] at hs; cases hs
theorem Lg.lk {l : List Zo} {s want : Wd} (h : Lg (pairs l) s want) : lk (val (pairs l)) s = lk (val (pairs l)) want := by
  have hw : want.length ≤ s.length ∧ s.take want.length = want := by
    rcases h.1 with rfl | ⟨m, -, h2⟩
    · exact ⟨Nat.zero_le _, rfl⟩
    · exact pfx.1 h2
  have h1 : lkN (val (pairs l)) s s.length = lkN (val (pairs l)) s want.length := by
    refine lkN_down s.length hw.1 fun m hm1 hm2 => ?_
    refine val_none.2 fun k hk => ?_
    have := h.2 _ k hk (take_pfx hm2)
    rw [List.length_take, Nat.min_eq_left hm2] at this
    omega
  show lkN (val (pairs l)) s s.length = _
  rw [h1, lk_take _ _ _ hw.1, hw.2]
theorem Lg.fnd {l : List Zo} {s want : Wd} (hv : Vld l) (hn : numB s = true) (h : Lg (pairs l) s want) : (want = [] → fnd l s = []) ∧ (want ≠ [] → fnd l want = fnd l s ∧ fnd l s ≠ []) := by
  constructor
  · rintro rfl
    rw [fnd_eq hv hn, h.lk]; rfl
  · intro hne
    rcases h.1 with h1 | ⟨m, h1, h2⟩
    · exact absurd h1 hne
    · obtain ⟨z, hz, rfl, hp⟩ := mem_pairs.1 h1
      have e1 := fnd_own hv hz hp
      have e2 : Zn.fnd l want = Zn.fnd l s := by rw [fnd_eq hv ((hv.ok z hz).2.2.2 want hp), fnd_eq hv hn, h.lk]
      refine ⟨e2, ?_⟩
      rw [← e2, e1]
      exact nmB_ne (hv.ok z hz).1
end Go.Proofs.Ytflonakoagjmhaa.Zn
namespace Go.Proofs.Ytflonakoagjmhaa
open Go.RowKit Go.Lib Zn
set_option maxRecDepth 100000 in
set_option maxHeartbeats 16000000 in
theorem walkZonesShorter (A : Option Addr) (n c : Nat) (l : List Zm) (s : ByteArray) (w : World) (hA : ZsR w A l) (hn : l.length = n) (hc : n ≤ c) (hm : c ≤ maxLen) (hg : Big l) (hs : s.size ≤ maxLen) :
    Calls Try.prog 8 #[.slice A n c, .string s] w fun e w' => e = .returned (.bool true) ∧ Below w.heap.size w w' := by
  obtain ⟨v, hv⟩ := few_dec l
  have HF := Lib.hid (few_any A n c l w hA hn hc hm hg v hv)
  have HVL := Lib.hid (fun W => refValid_any s W hs)
  obtain ⟨nb, hnb⟩ : ∃ nb, numB s.data.toList = nb := ⟨_, rfl⟩
  rw [hnb] at HVL
  by_cases hgo : v = true ∧ nb = true
  · obtain ⟨rfl, rfl⟩ := hgo
    have hf1 := (hv.1 rfl).fit
    have hn70 : n ≤ 70 := by rw [← hn]; exact (hv.1 rfl).len
    have HC1 := Lib.hid (check_any A n c l w hA hn hc hm hf1)
    by_cases hk1 : ckZ (zos l) = 0
    · rw [hk1] at HC1
      obtain ⟨V, hV⟩ := ba_of (fnd (zos l) s.data.toList)
      obtain ⟨b, hb⟩ : ∃ b, (!V.data.toList.isEmpty) = b := ⟨_, rfl⟩
      have HX := Lib.hid (fun (W : World) (h : Below w.heap.size w W) => find_is A n c l s V b W (hA.below h) hn hc hm hf1 hs hV hb)
      have HY := Lib.hid (fun (t : ByteArray) (W : World) (h : Below w.heap.size w W) (ht : t.size ≤ maxLen) (hte : fnd (zos l) t.data.toList = V.data.toList) => find_is A n c l t V b W (hA.below h) hn hc hm hf1 ht hte hb)
      have HEND := Lib.hid (fun (want : ByteArray) (h : Lg (pairs (zos l)) s.data.toList want.data.toList) => Lg.fnd (ck_vld.1 hk1) hnb h)
      have HVB := Lib.hid (And.intro hV hb)
      have HA := Lib.hid hA; have HN := Lib.hid hn; have HFI := Lib.hid hf1; have HS := Lib.hid hs
      clear hA hn hm hg hv hs hV hb hf1 hnb hk1
      go_enter Try.func8, Try.ntmps8
      go_wp2_with (first
        | (go_at_call 9; (with_reducible refine HF.out.mono ?_); rintro e w1 ⟨rfl, rfl⟩)
        | (go_at_call 23; (with_reducible refine (HVL.out _).mono ?_); rintro e w1 ⟨rfl, rfl⟩)
        | (go_at_call 11; (with_reducible refine HC1.out.mono ?_); rintro e w1 ⟨rfl, hb1⟩; have HB1 := Lib.hid hb1; clear hb1))
      go_loopw [5, 6] (fun sv iv wr => ∃ (i : Nat) (v : ByteArray), sv = .string v ∧ iv = .int .i64 i ∧ i ≤ n ∧ wr = w1 ∧ v.size ≤ maxLen ∧ Hid (Lg (pairs (zos (l.take i))) s.data.toList v.data.toList)) (fun _ iv _ => n - (intOf iv).toNat)
      case atStart => exact ⟨0, ⟨#[]⟩, rfl, rfl, by omega, rfl, by decide, Lib.hid (Lg.nil _)⟩
      case round =>
        obtain ⟨i, v, rfl, rfl, hi, rfl, hvs, HB⟩ := hrel
        by_cases hlt : i < n
        · have hil : i < l.length := by rw [HN.out]; exact hlt
          have hlt' : (i : Int) < (n : Int) := by omega
          have hi0 : (0 : Int) ≤ (i : Int) := by omega
          obtain ⟨bk, off, P, c2, rfl, hbl, g0, g1, g2, g3, g4, g5⟩ := HA.out i hil
          have g1 := (HB1.out.cell (p := ⟨bk, off + i * 2 + 1, none⟩) hbl).trans g1
          have HFZ := Lib.hid (HFI.out.at hil rfl)
          have hpf := pre_full l i hil
          have HPR := Lib.hid (fun j hj => pre_succ l i j hj)
          have HB0 : Hid (Lg (pre l i 0) s.data.toList v.data.toList) := Lib.hid (by rw [pre_zero]; exact HB.out)
          obtain ⟨z, hz⟩ : ∃ z, l.getD i zm0 = z := ⟨_, rfl⟩
          rw [hz] at g1 g4 hpf HPR HFZ
          obtain ⟨x, ss⟩ := z
          simp only at g1 g4 hpf HPR HFZ
          obtain ⟨L, hL⟩ : ∃ L, ss.length = L := ⟨_, rfl⟩
          rw [hL] at g1 hpf HPR
          have HL := Lib.hid hL; have HPF := Lib.hid hpf; have HP := Lib.hid g4
          have hLm : L ≤ 9223372036854775807 := by have := HFZ.out.1; omega
          clear g0 g2 g3 g4 g5 hz hL hpf hil HB hbl
          go_wp2_with fail
          go_loopw [5, 7] (fun sv jv w9 => ∃ (j : Nat) (v : ByteArray), sv = .string v ∧ jv = .int .i64 j ∧ j ≤ L ∧ w9 = wr ∧ v.size ≤ maxLen ∧ Hid (Lg (pre l i j) s.data.toList v.data.toList)) (fun _ jv _ => L - (intOf jv).toNat)
          case atStart => exact ⟨0, v, rfl, rfl, by omega, rfl, hvs, HB0⟩
          case round =>
            obtain ⟨j, v2, rfl, rfl, hj, rfl, hvs2, HJ⟩ := hrel
            by_cases hjl : j < L
            · have hjl' : (j : Int) < (L : Int) := by omega
              have hj0 : (0 : Int) ≤ (j : Int) := by omega
              have hjs : j < ss.length := by rw [HL.out]; exact hjl
              obtain ⟨bp, offp, rfl, hbp, gp⟩ := HP.out j hjs
              have gp := (HB1.out.cell (p := ⟨bp, offp + j, none⟩) hbp).trans gp
              obtain ⟨p, hp⟩ : ∃ p, ss.getD j ⟨#[]⟩ = p := ⟨_, rfl⟩
              have hps2 := HPR.out j hjl
              rw [hp] at gp hps2
              have hps := HFZ.out.2.2 p (by rw [← hp]; exact getD_memS hjs)
              have HPS := Lib.hid hps2
              have HHP := Lib.hid (fun W => refHasPrefix_any s p W HS.out hps)
              have HLN : Hid (p.data.toList.length = p.size ∧ v2.data.toList.length = v2.size) := Lib.hid ⟨by simp, by simp⟩
              have hpx : (p.size : Int) ≤ 9223372036854775807 := by unfold maxLen at hps; omega
              have hvx : (v2.size : Int) ≤ 9223372036854775807 := by unfold maxLen at hvs2; omega
              have HPZ := Lib.hid hps
              obtain ⟨q, hq⟩ : ∃ q, Lib.hasPrefix s.data.toList p.data.toList = q := ⟨_, rfl⟩
              rw [hq] at HHP
              have HQ := Lib.hid hq
              clear hp hps2 hps hq hjs hbp
              by_cases hgt : v2.size < p.size
              · have t1 : decide ((v2.size : Int) < (p.size : Int)) = true := decide_eq_true (by omega)
                have t2 : decide (v2.size < p.size) = true := decide_eq_true hgt
                cases q
                · have HB2 : Hid (Lg (pre l i (j + 1)) s.data.toList v2.data.toList) := Lib.hid (by rw [HPS.out]; exact HJ.out.no (.inr HQ.out))
                  go_wp2_with (go_at_call 24; (with_reducible refine (HHP.out _).mono ?_); rintro e w1 ⟨rfl, rfl⟩)
                  go_roundw
                  case rel => exact ⟨j + 1, v2, rfl, by go_num, by omega, by trivial, hvs2, HB2⟩
                  case measure => simp [intOf] <;> omega
                · have HB2 : Hid (Lg (pre l i (j + 1)) s.data.toList p.data.toList) := Lib.hid (by rw [HPS.out]; exact HJ.out.yes (by rw [HLN.out.1, HLN.out.2]; exact hgt) HQ.out)
                  go_wp2_with (go_at_call 24; (with_reducible refine (HHP.out _).mono ?_); rintro e w1 ⟨rfl, rfl⟩)
                  go_roundw
                  case rel => exact ⟨j + 1, p, rfl, by go_num, by omega, by trivial, HPZ.out, HB2⟩
                  case measure => simp [intOf] <;> omega
              · have t1 : decide ((v2.size : Int) < (p.size : Int)) = false := decide_eq_false (by omega)
                have t2 : decide (v2.size < p.size) = false := decide_eq_false hgt
                have HB2 : Hid (Lg (pre l i (j + 1)) s.data.toList v2.data.toList) := Lib.hid (by rw [HPS.out]; exact HJ.out.no (.inl (by rw [HLN.out.1, HLN.out.2]; omega)))
                go_wp2_with fail
                go_roundw
                case rel => exact ⟨j + 1, v2, rfl, by go_num, by omega, by trivial, hvs2, HB2⟩
                case measure => simp [intOf] <;> omega
            · obtain rfl : j = L := by omega
              have HB2 : Hid (Lg (pairs (zos (l.take (i + 1)))) s.data.toList v2.data.toList) := Lib.hid (by rw [← HPF.out]; exact HJ.out)
              go_wp2_with fail
              go_roundw
              case rel => exact ⟨i + 1, v2, rfl, by go_num, by omega, by trivial, hvs2, HB2⟩
              case measure => simp [intOf] <;> omega
        · obtain rfl : i = n := by omega
          have HT := Lib.hid (HEND.out v (by
            have h := HB.out
            rw [List.take_of_length_le (by rw [HN.out]; exact Nat.le_refl _)] at h
            exact h))
          clear HB
          cases hv : v.toList.isEmpty
          · have hne : v.data.toList ≠ [] := by
              rw [isE] at hv
              intro e; rw [e] at hv; cases hv
            have h2 := HT.out.2 hne
            have hbt : b = true := by
              rw [← HVB.out.2, ← HVB.out.1]
              cases h3 : fnd (zos l) s.data.toList with
              | nil => exact absurd h3 h2.2
              | cons x t => rfl
            subst hbt
            have HYV := Lib.hid (fun W h => HY.out v W h hvs (h2.1.trans HVB.out.1))
            clear hne h2
            go_wp2_with (first
              | (go_at_call 16; (with_reducible refine (HX.out _ HB1.out).mono ?_); rintro e w3 ⟨rfl, hb3⟩; have HB3 := Lib.hid (HB1.out.trans (hb3.mono HB1.out.size)); clear hb3 HX)
              | (go_at_call 16; (with_reducible refine (HYV.out _ HB3.out).mono ?_); rintro e w4 ⟨rfl, hb4⟩; have HB4 := Lib.hid (HB3.out.trans (hb4.mono HB3.out.size)); clear hb4)
              | (go_at_call 10; (with_reducible refine (awake_any _).mono ?_); rintro e w6 ⟨rfl, hb6⟩))
            go_ret
            exact ⟨rfl, HB4.out.trans (hb6.mono HB4.out.size)⟩
          · have hem : v.data.toList = [] := by
              rw [isE] at hv
              simpa using hv
            have h2 := HT.out.1 hem
            have hV0 : V = ⟨#[]⟩ := none_str (by rw [← HVB.out.1, h2])
            subst hV0
            have hbf : b = false := by rw [← HVB.out.2]; rfl
            subst hbf
            clear hem h2
            go_wp2_with (first
              | (go_at_call 16; (with_reducible refine (HX.out _ HB1.out).mono ?_); rintro e w3 ⟨rfl, hb3⟩; have HB3 := Lib.hid (HB1.out.trans (hb3.mono HB1.out.size)); clear hb3 HX)
              | (go_at_call 10; (with_reducible refine (awake_any _).mono ?_); rintro e w6 ⟨rfl, hb6⟩))
            go_ret
            exact ⟨rfl, HB3.out.trans (hb6.mono HB3.out.size)⟩
    · obtain ⟨ev, hev⟩ : ∃ ev, ckZ (zos l) = ev := ⟨_, rfl⟩
      rw [hev] at HC1 hk1
      have d2 : (ev != 0) = true := by simpa using hk1
      have d3 : (ev == 0) = false := by simpa using hk1
      clear hA hn hc hm hg hv hs hf1 hev hk1 hnb
      go_enter Try.func8, Try.ntmps8
      go_wp2_with (first
        | (go_at_call 9; (with_reducible refine HF.out.mono ?_); rintro e w1 ⟨rfl, rfl⟩)
        | (go_at_call 23; (with_reducible refine (HVL.out _).mono ?_); rintro e w1 ⟨rfl, rfl⟩)
        | (go_at_call 11; (with_reducible refine HC1.out.mono ?_); rintro e w1 ⟨rfl, hb1⟩; have HB1 := Lib.hid hb1; clear hb1)
        | (go_at_call 10; (with_reducible refine (awake_any _).mono ?_); rintro e w6 ⟨rfl, hb6⟩))
      go_ret
      exact ⟨rfl, HB1.out.trans (hb6.mono HB1.out.size)⟩
  · have hcs : v = false ∨ (v = true ∧ nb = false) := by
      cases v with
      | false => exact .inl rfl
      | true =>
        cases nb with
        | false => exact .inr ⟨rfl, rfl⟩
        | true => exact absurd ⟨rfl, rfl⟩ hgo
    clear hA hn hc hm hg hv hs hgo hnb
    rcases hcs with rfl | ⟨rfl, rfl⟩
    all_goals
      go_enter Try.func8, Try.ntmps8
      go_wp2_with (first
        | (go_at_call 9; (with_reducible refine HF.out.mono ?_); rintro e w1 ⟨rfl, rfl⟩)
        | (go_at_call 23; (with_reducible refine (HVL.out _).mono ?_); rintro e w1 ⟨rfl, rfl⟩)
        | (go_at_call 10; (with_reducible refine (awake_any _).mono ?_); rintro e w6 ⟨rfl, hb6⟩))
      go_ret
      exact ⟨rfl, hb6⟩
end Go.Proofs.Ytflonakoagjmhaa
