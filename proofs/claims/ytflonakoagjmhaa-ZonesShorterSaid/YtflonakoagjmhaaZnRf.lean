/- Walks of the reference: whether a text begins with another; the zone of a number. -/
import Derived.Test.YtflonakoagjmhaaZnBm
namespace Go.Proofs.Ytflonakoagjmhaa.Zn
open Go.RowKit Go.Proofs.Ytflonakoagjmhaa Go.Maps

set_option maxHeartbeats 1000000 in
theorem refHasPrefix_any (s p : ByteArray) (w : World) (hs : s.size ≤ maxLen) (hp : p.size ≤ maxLen) :
    Calls Try.prog 24 #[.string s, .string p] w fun e w' => e = .returned (.bool (Lib.hasPrefix s.data.toList p.data.toList)) ∧ w = w' := by
  unfold maxLen at hs hp
  have HF := Lib.hid (Lib.hasPrefix_raw s p)
  by_cases h : p.size ≤ s.size
  · have hd : decide (p.size ≤ s.size) = true := by simpa using h
    go_enter Try.func24, Try.ntmps24
    go_wp2
    go_ret
    refine ⟨ret_bool ?_, rfl⟩
    rw [← HF.out, hd]; simp
  · have hd : decide (p.size ≤ s.size) = false := by simpa using h
    go_enter Try.func24, Try.ntmps24
    go_wp2
    go_ret
    refine ⟨ret_bool ?_, rfl⟩
    rw [← HF.out, hd]; simp

set_option maxRecDepth 100000 in
set_option maxHeartbeats 8000000 in
/-- The zone of the longest prefix of a text. -/
theorem refFind_any (A : Option Addr) (n c : Nat) (l : List Zm) (s : ByteArray) (w : World) (hA : ZsR w A l) (hn : l.length = n) (hc : n ≤ c) (hm : c ≤ maxLen) (hf : Fit l) (hs : s.size ≤ maxLen) (hO : Once (pairs (zos l))) (hF : Full (pairs (zos l))) :
    Calls Try.prog 30 #[.slice A n c, .string s] w (StrOut (lk (val (pairs (zos l))) s.data.toList) w) := by
  have hmm := hm
  unfold maxLen at hm
  have HA := Lib.hid hA; have HN := Lib.hid hn; have HF := Lib.hid hf; have HS := Lib.hid hs; have HOF := Lib.hid (And.intro hO hF)
  clear hA hn hf hs hO hF hmm
  go_enter Try.func30, Try.ntmps30
  go_wp2_with fail
  go_loopw [5, 6, 7] (fun sv nv iv wr => ∃ (i m : Nat) (v : ByteArray), sv = .string v ∧ nv = .int .i64 m ∧ iv = .int .i64 i ∧ i ≤ n ∧ wr = w ∧ v.size ≤ maxLen ∧ (m : Int) ≤ 9223372036854775807 ∧ Hid (Best (pairs (zos (l.take i))) s.data.toList v.data.toList m)) (fun _ _ iv _ => n - (intOf iv).toNat)
  case atStart => exact ⟨0, 0, ⟨#[]⟩, rfl, rfl, rfl, by omega, rfl, by decide, by decide, Lib.hid (Best.nil _)⟩
  case round =>
    obtain ⟨i, m, v, rfl, rfl, rfl, hi, rfl, hvs, hmx, HB⟩ := hrel
    by_cases hlt : i < n
    · have hil : i < l.length := by rw [HN.out]; exact hlt
      have hlt' : (i : Int) < (n : Int) := by omega
      have hi0 : (0 : Int) ≤ (i : Int) := by omega
      obtain ⟨bk, off, P, c2, rfl, hbl, g0, g1, g2, g3, g4, g5⟩ := HA.out i hil
      have HFZ := Lib.hid (HF.out.at hil rfl)
      have hpf := pre_full l i hil
      have HPR := Lib.hid (fun j hj => pre_succ l i j hj)
      have HB0 : Hid (Best (pre l i 0) s.data.toList v.data.toList m) := Lib.hid (by rw [pre_zero]; exact HB.out)
      obtain ⟨z, hz⟩ : ∃ z, l.getD i zm0 = z := ⟨_, rfl⟩
      rw [hz] at g0 g1 g4 hpf HPR HFZ
      obtain ⟨x, ss⟩ := z
      simp only at g0 g1 g4 hpf HPR HFZ
      obtain ⟨L, hL⟩ : ∃ L, ss.length = L := ⟨_, rfl⟩
      rw [hL] at g1 hpf HPR
      have HL := Lib.hid hL; have HPF := Lib.hid hpf; have HP := Lib.hid g4
      have hLm : L ≤ 9223372036854775807 := by have := HFZ.out.1; omega
      clear g2 g3 g4 g5 hz hL hpf hil HB hbl
      go_wp2_with fail
      go_loopw [5, 6, 8] (fun sv nv jv w9 => ∃ (j m : Nat) (v : ByteArray), sv = .string v ∧ nv = .int .i64 m ∧ jv = .int .i64 j ∧ j ≤ L ∧ w9 = wr ∧ v.size ≤ maxLen ∧ (m : Int) ≤ 9223372036854775807 ∧ Hid (Best (pre l i j) s.data.toList v.data.toList m)) (fun _ _ jv _ => L - (intOf jv).toNat)
      case atStart => exact ⟨0, m, v, rfl, rfl, rfl, by omega, rfl, hvs, hmx, HB0⟩
      case round =>
        obtain ⟨j, m2, v2, rfl, rfl, rfl, hj, rfl, hvs2, hmx2, HJ⟩ := hrel
        by_cases hjl : j < L
        · have hjl' : (j : Int) < (L : Int) := by omega
          have hj0 : (0 : Int) ≤ (j : Int) := by omega
          have hjs : j < ss.length := by rw [HL.out]; exact hjl
          obtain ⟨bp, offp, rfl, hbp, gp⟩ := HP.out j hjs
          obtain ⟨p, hp⟩ : ∃ p, ss.getD j ⟨#[]⟩ = p := ⟨_, rfl⟩
          have hps2 := HPR.out j hjl
          rw [hp] at gp hps2
          have hps := HFZ.out.2.2 p (by rw [← hp, List.getD_eq_getElem?_getD, List.getElem?_eq_getElem hjs]; exact List.getElem_mem _)
          have HPS := Lib.hid hps2
          have HHP := Lib.hid (fun W => refHasPrefix_any s p W HS.out hps)
          have hlen : p.data.toList.length = p.size := by simp
          have HLN := Lib.hid hlen
          have hpx : (p.size : Int) ≤ 9223372036854775807 := by unfold maxLen at hps; omega
          obtain ⟨q, hq⟩ : ∃ q, Lib.hasPrefix s.data.toList p.data.toList = q := ⟨_, rfl⟩
          rw [hq] at HHP
          have HQ := Lib.hid hq
          clear hp hps2 hps hlen hq hjs hbp
          by_cases hgt : m2 < p.size
          · have t1 : decide ((m2 : Int) < (p.size : Int)) = true := decide_eq_true (by omega)
            have t2 : decide (m2 < p.size) = true := decide_eq_true hgt
            cases q
            · have HB2 : Hid (Best (pre l i (j + 1)) s.data.toList v2.data.toList m2) := Lib.hid (by rw [HPS.out]; exact HJ.out.no (.inr HQ.out))
              go_wp2_with (go_at_call 24; (with_reducible refine (HHP.out _).mono ?_); rintro e w1 ⟨rfl, rfl⟩)
              go_roundw
              case rel => exact ⟨j + 1, m2, v2, rfl, rfl, by go_num, by omega, by trivial, hvs2, hmx2, HB2⟩
              case measure => simp [intOf] <;> omega
            · have HB2 : Hid (Best (pre l i (j + 1)) s.data.toList x.data.toList p.size) := Lib.hid (by rw [HPS.out, ← HLN.out]; exact HJ.out.yes (by rw [HLN.out]; exact hgt) HQ.out)
              go_wp2_with (go_at_call 24; (with_reducible refine (HHP.out _).mono ?_); rintro e w1 ⟨rfl, rfl⟩)
              go_roundw
              case rel => exact ⟨j + 1, p.size, x, rfl, rfl, by go_num, by omega, by trivial, HFZ.out.2.1, hpx, HB2⟩
              case measure => simp [intOf] <;> omega
          · have t1 : decide ((m2 : Int) < (p.size : Int)) = false := decide_eq_false (by omega)
            have t2 : decide (m2 < p.size) = false := decide_eq_false hgt
            have HB2 : Hid (Best (pre l i (j + 1)) s.data.toList v2.data.toList m2) := Lib.hid (by rw [HPS.out]; exact HJ.out.no (.inl (by rw [HLN.out]; omega)))
            go_wp2_with fail
            go_roundw
            case rel => exact ⟨j + 1, m2, v2, rfl, rfl, by go_num, by omega, by trivial, hvs2, hmx2, HB2⟩
            case measure => simp [intOf] <;> omega
        · obtain rfl : j = L := by omega
          have HB2 : Hid (Best (pairs (zos (l.take (i + 1)))) s.data.toList v2.data.toList m2) := Lib.hid (by rw [← HPF.out]; exact HJ.out)
          go_wp2_with fail
          go_roundw
          case rel => exact ⟨i + 1, m2, v2, rfl, rfl, by go_num, by omega, by trivial, hvs2, hmx2, HB2⟩
          case measure => simp [intOf] <;> omega
    · obtain rfl : i = n := by omega
      have HT : Hid (lk (val (pairs (zos l))) s.data.toList = v.data.toList) := Lib.hid (by
        have h := HB.out
        rw [List.take_of_length_le (by rw [HN.out]; exact Nat.le_refl _)] at h
        exact h.lk HOF.out.1 HOF.out.2)
      go_wp2_with fail
      go_ret
      exact ⟨v, rfl, HT.out.symm, hvs, rfl⟩
end Go.Proofs.Ytflonakoagjmhaa.Zn
